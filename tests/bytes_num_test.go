package tests

import (
	"encoding/binary"
	"math"
	"strings"
	"testing"

	"loop.example/g00367/impl"
)

// edgeNums: the ends, those next to them, and those at which one byte more is needed.
func edgeNums() []int64 {
	l := []int64{0, -1, 1, -2, 2, math.MinInt64, math.MinInt64 + 1, math.MaxInt64, math.MaxInt64 - 1}
	for bits := 6; bits < 63; bits += 7 {
		n := int64(1) << bits
		l = append(l, n-2, n-1, n, n+1, -n-2, -n-1, -n, -n+1)
	}
	for bits := range 63 {
		l = append(l, int64(1)<<bits, -(int64(1) << bits))
	}
	return l
}

// numModel is chapter 2's GetNum, said another way: the row of bytes is cut out first, and then looked at.
func numModel(text string, at int64) impl.NumOut {
	if len(text) > impl.MaxBytes {
		return impl.NumOut{Code: impl.ErrSize}
	}
	if at < 0 {
		return impl.NumOut{Code: impl.ErrForm}
	}
	if at > int64(len(text)) {
		return impl.NumOut{Code: impl.ErrShort}
	}
	row := text[at:]
	if len(row) > 10 {
		row = row[:10]
	}
	last := strings.IndexFunc(row, func(r rune) bool { return r < 128 })
	if last < 0 && len(row) < 10 {
		return impl.NumOut{Code: impl.ErrShort}
	}
	n, many := binary.Varint([]byte(row))
	if many <= 0 || string(binary.AppendVarint(nil, n)) != row[:many] {
		return impl.NumOut{Code: impl.ErrSyntax}
	}
	return impl.NumOut{N: n, At: at + int64(many)}
}

func TestPutNumBytes(t *testing.T) {
	rows := []struct {
		n    int64
		want string
	}{
		{0, "\x00"}, {-1, "\x01"}, {1, "\x02"}, {-2, "\x03"},
		{63, "\x7e"}, {-64, "\x7f"}, {64, "\x80\x01"}, {-65, "\x81\x01"},
		{8191, "\xfe\x7f"}, {-8192, "\xff\x7f"}, {8192, "\x80\x80\x01"}, {-8193, "\x81\x80\x01"},
		{math.MaxInt64, "\xfe\xff\xff\xff\xff\xff\xff\xff\xff\x01"},
		{math.MinInt64, "\xff\xff\xff\xff\xff\xff\xff\xff\xff\x01"},
		{1 << 62, "\x80\x80\x80\x80\x80\x80\x80\x80\x80\x01"},
	}
	for _, r := range rows {
		same(t, "PutNum", impl.PutNum(r.n), r.want)
		same(t, "GetNum", impl.GetNum(r.want, 0), impl.NumOut{N: r.n, At: int64(len(r.want))})
	}
}

func TestPutNumNeedsOneByteMore(t *testing.T) {
	for many := 1; many <= 9; many++ {
		n := int64(1) << (7*many - 1)
		same(t, "bytes of n-1", len(impl.PutNum(n-1)), many)
		same(t, "bytes of n", len(impl.PutNum(n)), many+1)
		same(t, "bytes of -n", len(impl.PutNum(-n)), many)
		same(t, "bytes of -n-1", len(impl.PutNum(-n-1)), many+1)
	}
}

func TestNumbersComeBack(t *testing.T) {
	l := edgeNums()
	d := &dice{state: 1}
	for range 3000 {
		l = append(l, int64(d.next()<<31^d.next())>>d.below(64))
	}
	for _, n := range l {
		b := impl.PutNum(n)
		same(t, "PutNum", b, string(binary.AppendVarint(nil, n)))
		same(t, "alone", impl.GetNum(b, 0), impl.NumOut{N: n, At: int64(len(b))})
		same(t, "within", impl.GetNum("\x80\x00?"+b+"\xff\x00", 3), impl.NumOut{N: n, At: int64(3 + len(b))})
	}
}

func TestNumbersInARow(t *testing.T) {
	l := edgeNums()
	text := ""
	for _, n := range l {
		text += impl.PutNum(n)
	}
	at := int64(0)
	for _, n := range l {
		got := impl.GetNum(text, at)
		same(t, "number", got.N, n)
		same(t, "code", got.Code, int64(impl.OK))
		at = got.At
	}
	same(t, "the end", at, int64(len(text)))
}

func TestGetNumRefusals(t *testing.T) {
	rows := []struct {
		what string
		text string
		at   int64
		code int64
	}{
		{"below 0", "\x00", -1, impl.ErrForm},
		{"far below 0", "\x00", math.MinInt64, impl.ErrForm},
		{"below 0, of nothing", "", -1, impl.ErrForm},
		{"below 0, of a wrong one", "\x80\x00", -1, impl.ErrForm},
		{"nothing", "", 0, impl.ErrShort},
		{"at the end", "\x00\x00", 2, impl.ErrShort},
		{"behind the end", "\x00\x00", 3, impl.ErrShort},
		{"far behind the end", "\x00\x00", math.MaxInt64, impl.ErrShort},
		{"it ends", "\x80", 0, impl.ErrShort},
		{"it ends within", "\x00\x81\x80", 1, impl.ErrShort},
		{"it ends ahead of its tenth", strings.Repeat("\x80", 9), 0, impl.ErrShort},
		{"ten, and no last one", strings.Repeat("\x80", 10), 0, impl.ErrSyntax},
		{"eleven, and no last one", strings.Repeat("\xff", 11), 0, impl.ErrSyntax},
		{"eleven", strings.Repeat("\x80", 10) + "\x01", 0, impl.ErrSyntax},
		{"tenth is 2", strings.Repeat("\x80", 9) + "\x02", 0, impl.ErrSyntax},
		{"tenth is 3", strings.Repeat("\xff", 9) + "\x03", 0, impl.ErrSyntax},
		{"tenth is 127", strings.Repeat("\xff", 9) + "\x7f", 0, impl.ErrSyntax},
		{"tenth is 129", strings.Repeat("\xff", 9) + "\x81\x00", 0, impl.ErrSyntax},
		{"tenth is needless", strings.Repeat("\xff", 9) + "\x00", 0, impl.ErrSyntax},
		{"second is needless", "\x80\x00", 0, impl.ErrSyntax},
		{"second is needless behind a number", "\x81\x00", 0, impl.ErrSyntax},
		{"third is needless", "x\xff\x80\x00", 1, impl.ErrSyntax},
	}
	for _, r := range rows {
		same(t, r.what, impl.GetNum(r.text, r.at), impl.NumOut{Code: r.code})
		same(t, r.what+", as a text's length", impl.GetText(r.text, r.at), impl.TextOut{Code: r.code})
	}
}

func TestGetNumLimits(t *testing.T) {
	most := strings.Repeat("\x80", impl.MaxBytes-2) + "\x80\x01"
	same(t, "at the limit", impl.GetNum(most, impl.MaxBytes-2), impl.NumOut{N: 64, At: impl.MaxBytes})
	same(t, "at the limit, behind it", impl.GetNum(most, impl.MaxBytes), impl.NumOut{Code: impl.ErrShort})
	same(t, "over it", impl.GetNum("\x00"+most, 0), impl.NumOut{Code: impl.ErrSize})
	same(t, "over it, ahead of a place below 0", impl.GetNum("\x00"+most, -1), impl.NumOut{Code: impl.ErrSize})
	same(t, "over it, ahead of one behind", impl.GetNum("\x00"+most, impl.MaxBytes+5), impl.NumOut{Code: impl.ErrSize})
}

func TestGetNumOfAllShortTexts(t *testing.T) {
	for a := range 256 {
		for b := range 256 {
			text := string([]byte{byte(a), byte(b)})
			for at := int64(-1); at <= 3; at++ {
				if got, want := impl.GetNum(text, at), numModel(text, at); got != want {
					t.Fatalf("GetNum(%q, %d): got %+v, want %+v", text, at, got, want)
				}
			}
		}
	}
}

func TestGetNumOfLongerTexts(t *testing.T) {
	d := &dice{state: 2}
	ends := []byte{0, 1, 2, 127, 128, 129, 255}
	for range 50000 {
		b := []byte(d.text(d.below(14)))
		for i := range b {
			b[i] |= 128
			if d.below(9) == 0 || i == 9 {
				b[i] = ends[d.below(len(ends))]
			}
		}
		text, at := string(b), int64(d.below(4))
		if got, want := impl.GetNum(text, at), numModel(text, at); got != want {
			t.Fatalf("GetNum(%q, %d): got %+v, want %+v", text, at, got, want)
		}
	}
}
