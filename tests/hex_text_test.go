package tests

import (
	"fmt"
	"math"
	"slices"
	"testing"

	"loop.example/g00367/impl"
)

const hexEnd = ":00000001FF\n"

// hexLine: a line of these bytes, whatever they are, with a sum that is right.
func hexLine(bytes ...int) string {
	line, sum := ":", 0
	for _, b := range bytes {
		line += fmt.Sprintf("%02X", b)
		sum += b
	}
	return line + fmt.Sprintf("%02X\n", (256-sum%256)%256)
}

// hexMeant writes in another way than the program does, by the document's words; it minds no limit.
func hexMeant(base int64, words []int64) string {
	var bytes []int
	for _, w := range words {
		bytes = append(bytes, int(w)%256, int(w)/256)
	}
	out, address := "", int(base)
	for len(bytes) > 0 {
		row := bytes[:min(16, len(bytes))]
		out += hexLine(append([]int{len(row), address / 256, address % 256, 0}, row...)...)
		bytes, address = bytes[len(row):], address+len(row)
	}
	return out + hexEnd
}

// wordsUp: so many words that rise, with both of their bytes.
func wordsUp(many int) []int64 {
	var out []int64
	for i := range many {
		out = append(out, int64(i*1021+0xfa)%65536)
	}
	return out
}

func TestHexTextHand(t *testing.T) {
	row := []int64{0x0100, 0x0302, 0x0504, 0x0706, 0x0908, 0x0b0a, 0x0d0c, 0xff0e}
	cases := []struct {
		base  int64
		words []int64
		want  string
	}{
		{0, nil, ":00000001FF\n"},
		{0, []int64{}, ":00000001FF\n"},
		{4096, nil, ":00000001FF\n"},
		{65534, nil, ":00000001FF\n"},
		{0, []int64{0}, ":020000000000FE\n:00000001FF\n"},
		{0, []int64{1}, ":020000000100FD\n:00000001FF\n"},
		{0, []int64{256}, ":020000000001FD\n:00000001FF\n"},
		{0, []int64{65535}, ":02000000FFFF00\n:00000001FF\n"},
		{65534, []int64{0xabcd}, ":02FFFE00CDAB89\n:00000001FF\n"},
		{258, row, ":10010200000102030405060708090A0B0C0D0EFF85\n:00000001FF\n"},
		{240, append(slices.Clone(row), 0x1234), ":1000F000000102030405060708090A0B0C0D0EFF98\n:020100003412B7\n:00000001FF\n"},
	}
	for _, c := range cases {
		what := fmt.Sprintf("%v at %d", c.words, c.base)
		same(t, what, impl.HexText(c.base, c.words), c.want)
		same(t, what+" by the other writer", hexMeant(c.base, c.words), c.want)
	}
}

func TestHexTextBase(t *testing.T) {
	for _, base := range []int64{-2, -1, 1, 3, 65533, 65535, 65536, 65538, -65536, math.MinInt64, math.MaxInt64, math.MaxInt64 - 1, 1 << 32} {
		for many := range 3 {
			same(t, fmt.Sprintf("%d words at %d", many, base), impl.HexText(base, wordsUp(many)), "")
		}
	}
	for _, base := range []int64{0, 2, 254, 256, 4096, 32766, 32768, 65000} {
		for many := range 40 {
			same(t, fmt.Sprintf("%d words at %d", many, base), impl.HexText(base, wordsUp(many)), hexMeant(base, wordsUp(many)))
		}
	}
}

// TestHexTextBelow: the last byte lies just below 65536, or behind it.
func TestHexTextBelow(t *testing.T) {
	for _, many := range []int{0, 1, 2, 7, 8, 9, 16, 17, impl.MaxWords, impl.MaxList} {
		last := int64(min(65534, 65536-2*many))
		words := wordsUp(many)
		same(t, fmt.Sprintf("%d words at %d", many, last), impl.HexText(last, words), hexMeant(last, words))
		same(t, fmt.Sprintf("%d words at %d", many, last-2), impl.HexText(last-2, words), hexMeant(last-2, words))
		same(t, fmt.Sprintf("%d words at %d", many, last+2), impl.HexText(last+2, words), "")
	}
	same(t, "far behind", impl.HexText(65534, wordsUp(impl.MaxList)), "")
}

func TestHexTextWords(t *testing.T) {
	same(t, "the ends of what is a word", impl.HexText(0, wordEdges), hexMeant(0, wordEdges))
	for _, n := range noWords {
		same(t, fmt.Sprint(n), impl.HexText(0, []int64{n}), "")
		same(t, fmt.Sprintf("%d at the end", n), impl.HexText(0, append(wordsUp(9), n)), "")
		same(t, fmt.Sprintf("%d first", n), impl.HexText(0, append([]int64{n}, wordsUp(9)...)), "")
	}
}

// TestHexTextHowMany: the longest text has 50 lines of 44 bytes and the end, so it never has more than MaxBytes.
func TestHexTextHowMany(t *testing.T) {
	for _, many := range []int{impl.MaxWords, impl.MaxWords + 1, impl.MaxList - 1, impl.MaxList} {
		same(t, fmt.Sprint(many), impl.HexText(2, wordsUp(many)), hexMeant(2, wordsUp(many)))
	}
	same(t, "MaxList: bytes", len(impl.HexText(0, wordsUp(impl.MaxList))), 50*44+12)
	same(t, "one more", impl.HexText(0, wordsUp(impl.MaxList+1)), "")
	same(t, "of which no text would have MaxBytes", impl.HexText(0, wordsUp(1451)), "")
	same(t, "of which a text would have more", impl.HexText(0, wordsUp(1452)), "")
}

func TestHexTextNewMemory(t *testing.T) {
	words := wordsUp(20)
	first, second := impl.HexText(0, words), impl.HexText(0, words)
	same(t, "handed in", words, wordsUp(20))
	if sharesMemory(first, second) {
		t.Errorf("two answers lie in one memory")
	}
	words[0], words[19] = 7, 8
	same(t, "behind a change", first, hexMeant(0, wordsUp(20)))
}

func TestHexTextRandom(t *testing.T) {
	d := dice{65}
	for range 3000 {
		many := d.below(60)
		words := make([]int64, many)
		for i := range words {
			words[i] = int64(d.below(65536))
		}
		base := int64(2 * d.below(32768))
		want := hexMeant(base, words)
		if base+2*int64(many) > 65536 {
			want = ""
		}
		same(t, fmt.Sprintf("%v at %d", words, base), impl.HexText(base, words), want)
	}
}
