package tests

import (
	"math"
	"strings"
	"testing"

	"loop.example/g00367/impl"
)

func everyByte() string {
	b := make([]byte, 256)
	for i := range b {
		b[i] = byte(i)
	}
	return string(b)
}

func TestPutTextBytes(t *testing.T) {
	same(t, "empty", impl.PutText(""), "\x00")
	same(t, "ab", impl.PutText("ab"), "\x04ab")
	same(t, "63 bytes", impl.PutText(long(63)), "\x7e"+long(63))
	same(t, "64 bytes", impl.PutText(long(64)), "\x80\x01"+long(64))
	same(t, "at the limit", impl.PutText(long(impl.MaxBytes)), "\x80\x7d"+long(impl.MaxBytes))
	same(t, "over it", impl.PutText(long(impl.MaxBytes+1)), "")
}

func TestTextsComeBack(t *testing.T) {
	l := []string{"", "a", "\x00", "\x80", "|\n", everyByte(), long(63), long(64), long(5000), "\u00e9\xff"}
	d := &dice{state: 3}
	for range 300 {
		l = append(l, d.text(d.below(200)))
	}
	for _, text := range l {
		b := impl.PutText(text)
		same(t, "alone", impl.GetText(b, 0), impl.TextOut{Text: text, At: int64(len(b))})
		same(t, "within", impl.GetText("\xff\x00"+b+"behind", 2), impl.TextOut{Text: text, At: int64(2 + len(b))})
	}
}

func TestTextsInARow(t *testing.T) {
	l := []string{"", "a", long(64), "", "last"}
	row := ""
	for _, text := range l {
		row += impl.PutText(text)
	}
	at := int64(0)
	for _, text := range l {
		got := impl.GetText(row, at)
		same(t, "text", got.Text, text)
		same(t, "code", got.Code, int64(impl.OK))
		at = got.At
	}
	same(t, "the end", at, int64(len(row)))
}

func TestGetTextLimits(t *testing.T) {
	most := long(impl.MaxBytes - 2)
	row := impl.PutText(most)
	same(t, "fits in", impl.GetText(row, 0), impl.TextOut{Text: most, At: impl.MaxBytes})
	same(t, "one byte more behind it", impl.GetText(row+"x", 0), impl.TextOut{Code: impl.ErrSize})
	same(t, "too long to fit in", impl.GetText(impl.PutText(long(impl.MaxBytes-1)), 0), impl.TextOut{Code: impl.ErrSize})
	same(t, "the longest that is put", impl.GetText(impl.PutText(long(impl.MaxBytes)), 0), impl.TextOut{Code: impl.ErrSize})
	same(t, "ahead of a place below 0", impl.GetText(row+"x", -1), impl.TextOut{Code: impl.ErrSize})
}

func TestGetTextRefusals(t *testing.T) {
	over := impl.PutNum(impl.MaxBytes + 1)
	rows := []struct {
		what string
		text string
		at   int64
		code int64
	}{
		{"below 0", "\x04ab", -1, impl.ErrForm},
		{"behind the end", "\x04ab", 3, impl.ErrShort},
		{"length -1", "\x01", 0, impl.ErrSyntax},
		{"length -1, bytes behind it", "\x01abc", 0, impl.ErrSyntax},
		{"the least length", impl.PutNum(math.MinInt64), 0, impl.ErrSyntax},
		{"the greatest length", impl.PutNum(math.MaxInt64) + "ab", 0, impl.ErrSyntax},
		{"length over the limit, ahead of too short", over, 0, impl.ErrSyntax},
		{"length over the limit, as much as may be behind", over + long(impl.MaxBytes-2), 0, impl.ErrSyntax},
		{"length at the limit", impl.PutNum(impl.MaxBytes) + long(impl.MaxBytes-2), 0, impl.ErrShort},
		{"one byte short", "\x04a", 0, impl.ErrShort},
		{"one byte short, within", "xy\x04a", 2, impl.ErrShort},
		{"all bytes short", "\x04", 0, impl.ErrShort},
		{"a needless byte in the length", "\x84\x00ab", 0, impl.ErrSyntax},
		{"a needless byte in the length 0", "\x80\x00", 0, impl.ErrSyntax},
		{"a length that ends", "\x84", 0, impl.ErrShort},
	}
	for _, r := range rows {
		same(t, r.what, impl.GetText(r.text, r.at), impl.TextOut{Code: r.code})
	}
}

func TestTextsAreNewMemory(t *testing.T) {
	body := long(100)
	row, sealed := impl.PutText(body), impl.Seal(body)
	if sharesMemory(impl.GetText(row, 0).Text, row) {
		t.Error("GetText shares memory with its argument")
	}
	if sharesMemory(impl.Unseal(sealed).Text, sealed) {
		t.Error("Unseal shares memory with its argument")
	}
	if sharesMemory(row, body) || sharesMemory(sealed, body) {
		t.Error("PutText or Seal shares memory with its argument")
	}
}

func TestNameRight(t *testing.T) {
	twenty := "a" + strings.Repeat("z9_0", 4) + "b_9"
	right := []string{"a", "z", "a_9", "abc", "a0", "z__", "r2", twenty, strings.Repeat("a", 20)}
	for _, name := range right {
		same(t, name, impl.NameRight(name), true)
	}
	wrong := []string{"", "_a", "9", "9a", "A", "aB", "Ab", "a b", " a", "a ", "a-b", "a.b", "a\n", "a\x00", "\u00e9", "a\u00e9",
		twenty + "a", strings.Repeat("a", 21), strings.Repeat("a", impl.MaxBytes), strings.Repeat("a", impl.MaxBytes+1)}
	for _, name := range wrong {
		same(t, name, impl.NameRight(name), false)
	}
}

func TestNameRightOfEachByte(t *testing.T) {
	first := "abcdefghijklmnopqrstuvwxyz"
	others := first + "0123456789_"
	for b := range 256 {
		c := string([]byte{byte(b)})
		same(t, "first "+c, impl.NameRight(c), strings.Contains(first, c))
		same(t, "first of two "+c, impl.NameRight(c+"a"), strings.Contains(first, c))
		same(t, "second "+c, impl.NameRight("a"+c), strings.Contains(others, c))
		same(t, "twentieth "+c, impl.NameRight(strings.Repeat("a", 19)+c), strings.Contains(others, c))
	}
}
