package tests

import (
	"fmt"
	"math"
	"regexp"
	"slices"
	"strconv"
	"strings"
	"testing"

	"loop.example/g00367/impl"
)

const numberForm = `([0-9]{1,5}|0x[0-9a-f]{1,4})`

var (
	wordOfNumber = regexp.MustCompile(`\A` + numberForm + `\z`)
	wordOfName   = regexp.MustCompile(`\A([a-z][a-z0-9_]{0,19})(?:([+-])` + numberForm + `)?\z`)

	rightNames = []string{"a", "z", "a_9", "r4", "mov", "x0x1", "b", "abcdefghijklmnopqrst", "a___________________"}
	wrongNames = []string{"A", "_a", "9a", "a.b", "a b", " a", "a ", "abcdefghijklmnopqrstu", "\u00e4", "a\u00e4", "\xff", "a\x00", "a\n"}
)

// numberMeant: what a number means that has its form; -1, if it is no word.
func numberMeant(written string) int64 {
	var n int64
	if behind, hex := strings.CutPrefix(written, "0x"); hex {
		n, _ = strconv.ParseInt(behind, 16, 64)
	} else {
		n, _ = strconv.ParseInt(written, 10, 64)
	}
	if n > 65535 {
		return -1
	}
	return n
}

// wordMeant reads a Word in another way than the program does, by the document's words.
func wordMeant(text string) impl.WordOut {
	refused := impl.WordOut{Code: impl.ErrSyntax}
	if wordOfNumber.MatchString(text) {
		n := numberMeant(text)
		if n < 0 {
			return refused
		}
		return impl.WordOut{Word: impl.Word{N: n}}
	}
	m := wordOfName.FindStringSubmatch(text)
	if m == nil {
		return refused
	}
	n := numberMeant(m[3])
	if n < 0 || n > 32767 {
		return refused
	}
	if m[2] == "-" {
		n = -n
	}
	return impl.WordOut{Word: impl.Word{Name: m[1], N: n}}
}

// near: each text that one byte makes of this one: taken away, put in, or put in the place of another.
func near(text string) []string {
	out := []string{text}
	for place := range len(text) + 1 {
		ahead, behind := text[:place], text[place:]
		if behind != "" {
			out = append(out, ahead+behind[1:])
		}
		for b := range 256 {
			one := string([]byte{byte(b)})
			out = append(out, ahead+one+behind)
			if behind != "" {
				out = append(out, ahead+one+behind[1:])
			}
		}
	}
	return out
}

func wordComesBack(t *testing.T, w impl.Word) {
	t.Helper()
	text := impl.WordText(w)
	if got := impl.WordRead(text); text == "" || got != (impl.WordOut{Word: w}) {
		t.Fatalf("%+v, written %q: got %+v", w, text, got)
	}
}

func TestPromise4Words(t *testing.T) {
	for n := range int64(65536) {
		wordComesBack(t, impl.Word{N: n})
	}
	for n := int64(-32767); n <= 32767; n++ {
		wordComesBack(t, impl.Word{Name: "a", N: n})
	}
	for _, name := range rightNames {
		for _, n := range []int64{0, 1, -1, 9, -10, 255, -32766, 32766, -32767, 32767} {
			wordComesBack(t, impl.Word{Name: name, N: n})
		}
	}
}

func TestWordTextForm(t *testing.T) {
	cases := []struct {
		word impl.Word
		text string
	}{
		{impl.Word{}, "0"},
		{impl.Word{N: 7}, "7"},
		{impl.Word{N: 100}, "100"},
		{impl.Word{N: 65535}, "65535"},
		{impl.Word{Name: "a"}, "a"},
		{impl.Word{Name: "a", N: 1}, "a+1"},
		{impl.Word{Name: "a", N: -1}, "a-1"},
		{impl.Word{Name: "abcdefghijklmnopqrst", N: 32767}, "abcdefghijklmnopqrst+32767"},
		{impl.Word{Name: "z_0", N: -32767}, "z_0-32767"},
	}
	for _, c := range cases {
		same(t, c.text, impl.WordText(c.word), c.text)
	}
}

func TestWordTextOfWrong(t *testing.T) {
	for _, n := range noWords {
		same(t, "no word", impl.WordText(impl.Word{N: n}), "")
	}
	for _, n := range []int64{-32768, 32768, -65535, 65535, 65536, 1 << 32, math.MinInt64, math.MinInt64 + 1, math.MaxInt64} {
		same(t, "too far", impl.WordText(impl.Word{Name: "a", N: n}), "")
	}
	same(t, "below 0 without a name", impl.WordText(impl.Word{N: -32767}), "")
	for _, name := range append([]string{long(9000), "+", "1", "a+1"}, wrongNames...) {
		for _, n := range []int64{0, 1, -1, 40000} {
			same(t, name, impl.WordText(impl.Word{Name: name, N: n}), "")
		}
	}
}

// TestNumbersInBothWays: each word in digits and in hexadecimal, with each number of noughts ahead that may be there.
func TestNumbersInBothWays(t *testing.T) {
	for n := range int64(65536) {
		for width := range 6 {
			want := impl.WordOut{Word: impl.Word{N: n}}
			if digits := fmt.Sprintf("%0*d", width, n); impl.WordRead(digits) != want {
				t.Fatalf("%s: got %+v", digits, impl.WordRead(digits))
			}
			if hex := fmt.Sprintf("0x%0*x", min(width, 4), n); impl.WordRead(hex) != want {
				t.Fatalf("%s: got %+v", hex, impl.WordRead(hex))
			}
		}
	}
	for n := 65536; n < 100000; n++ {
		if got := impl.WordRead(strconv.Itoa(n)); got != (impl.WordOut{Code: impl.ErrSyntax}) {
			t.Fatalf("%d: got %+v", n, got)
		}
	}
}

func TestWordReadTaken(t *testing.T) {
	cases := []struct {
		text string
		word impl.Word
	}{
		{"00000", impl.Word{}},
		{"0x0", impl.Word{}},
		{"0x0000", impl.Word{}},
		{"00012", impl.Word{N: 12}},
		{"0xffff", impl.Word{N: 65535}},
		{"0x00ab", impl.Word{N: 171}},
		{"a+0", impl.Word{Name: "a"}},
		{"a-0", impl.Word{Name: "a"}},
		{"a-0x0000", impl.Word{Name: "a"}},
		{"a+0x7fff", impl.Word{Name: "a", N: 32767}},
		{"a-0x7fff", impl.Word{Name: "a", N: -32767}},
		{"a+00001", impl.Word{Name: "a", N: 1}},
		{"a-32767", impl.Word{Name: "a", N: -32767}},
		{"xff", impl.Word{Name: "xff"}},
		{"x0", impl.Word{Name: "x0"}},
		{"r4", impl.Word{Name: "r4"}},
	}
	for _, c := range cases {
		same(t, c.text, impl.WordRead(c.text), impl.WordOut{Word: c.word})
	}
}

func TestWordReadRefused(t *testing.T) {
	l := []string{
		"", " ", "+", "-", "+1", "-1", "a+", "a-", "a+-1", "a--1", "a++1", "a+1+1", "a+b", "1+a", "1+1", "1-1",
		"000000", "000001", "65536", "99999", "123456", "0x", "0x00000", "0x10000", "0X1", "0xA", "0xFF", "0xg", "x1+0xG",
		"a+32768", "a-32768", "a+65535", "a+0x8000", "a-0x8000", "a+0xffff", "a+65536", "a+000001", "a+0x", "a+0x00001",
		"a +1", "a+ 1", " 1", "1 ", "1\n", "a+1 ", "1,", "1_0", "0b1", "0o7", "1e3", "a\u00b11", "\u0661", "a+\u0661", "#1", "&1", "$+0", "(1)",
	}
	for _, text := range append(l, wrongNames...) {
		same(t, text, impl.WordRead(text), impl.WordOut{Code: impl.ErrSyntax})
	}
}

// TestWordReadNear: what is one byte beside a Word is taken or refused as the document's words say.
func TestWordReadNear(t *testing.T) {
	l := []string{
		"", "0", "7", "65535", "6553", "00012", "0x", "0x1", "0xffff", "0x00a", "a", "a+1", "a-32767", "ab_9-0x7fff", "a+00012", "a-0",
		"abcdefghijklmnopqrst", "abcdefghijklmnopqrst+3276",
	}
	for _, text := range slices.Concat(l, wrongNames) {
		for _, n := range near(text) {
			if got, want := impl.WordRead(n), wordMeant(n); got != want {
				t.Errorf("%q: got %+v, want %+v", n, got, want)
			}
		}
	}
}

func TestWordReadLimit(t *testing.T) {
	for _, fill := range []string{"0", "a", " ", "+", "\xff"} {
		same(t, "at the limit", impl.WordRead(strings.Repeat(fill, impl.MaxBytes)), impl.WordOut{Code: impl.ErrSyntax})
		same(t, "over it", impl.WordRead(strings.Repeat(fill, impl.MaxBytes+1)), impl.WordOut{Code: impl.ErrSize})
	}
	same(t, "over it, a Word at first", impl.WordRead("a+1"+strings.Repeat(" ", impl.MaxBytes)), impl.WordOut{Code: impl.ErrSize})
}

func TestWordNewMemory(t *testing.T) {
	text := strings.Clone("some_name+5")
	if sharesMemory(impl.WordRead(text).Word.Name, text) {
		t.Error("the Name that is read lies in the text")
	}
	for _, n := range []int64{0, 5, -5} {
		name := strings.Clone("some_name")
		if sharesMemory(impl.WordText(impl.Word{Name: name, N: n}), name) {
			t.Error("what is written lies in the Name")
		}
	}
}
