package tests

import (
	"fmt"
	"strings"
	"testing"

	"loop.example/g00367/impl"
)

var hexRefused = impl.HexOut{Code: impl.ErrSyntax}

func isRefusedHex(t *testing.T, what string, text string) {
	t.Helper()
	same(t, fmt.Sprintf("%s: %q", what, text), impl.HexRead(text), hexRefused)
}

// hexCases: how many words, and at which base, are asked to come back.
func hexCases() []impl.HexOut {
	var out []impl.HexOut
	for _, many := range []int{1, 2, 6, 7, 8, 9, 15, 16, 17, 24, 255, 256, impl.MaxWords, impl.MaxWords + 1, impl.MaxList} {
		for _, base := range []int64{0, 2, 16, 254, 256, 4096, 0xabcc, int64(65536 - 2*many)} {
			out = append(out, impl.HexOut{Base: base, Words: wordsUp(many)})
		}
	}
	return append(out, impl.HexOut{}, impl.HexOut{Base: 0xfe, Words: wordEdges})
}

func TestPromise7BackFromText(t *testing.T) {
	for _, c := range hexCases() {
		text := impl.HexText(c.Base, c.Words)
		same(t, "text", text, hexMeant(c.Base, c.Words))
		same(t, text, impl.HexRead(text), c)
	}
	for _, base := range []int64{0, 2, 4096, 65534} {
		same(t, "no words, of which the base is 0", impl.HexRead(impl.HexText(base, nil)), impl.HexOut{})
	}
}

func TestPromise7Random(t *testing.T) {
	d := dice{7}
	for range 3000 {
		c := impl.HexOut{Base: int64(2 * d.below(32768-50))}
		for range 1 + d.below(50) {
			c.Words = append(c.Words, int64(d.below(65536)))
		}
		same(t, "back", impl.HexRead(impl.HexText(c.Base, c.Words)), c)
	}
}

// TestPromise7Turned: with any one byte turned, a digit among them, to any other one it could be, a text is refused.
func TestPromise7Turned(t *testing.T) {
	others := "0123456789ABCDEFabcdefgG: \n\r\x00\xff-+"
	for _, c := range []impl.HexOut{{}, {Base: 4096, Words: wordsUp(1)}, {Base: 65522, Words: wordsUp(7)}, {Base: 0, Words: wordsUp(8)}, {Base: 248, Words: wordsUp(9)}, {Base: 2, Words: make([]int64, 17)}} {
		text := impl.HexText(c.Base, c.Words)
		for i := range len(text) {
			for _, b := range []byte(others) {
				if b != text[i] {
					isRefusedHex(t, "turned", text[:i]+string([]byte{b})+text[i+1:])
				}
			}
		}
	}
	d := dice{77}
	text := impl.HexText(512, wordsUp(impl.MaxWords))
	for i := range len(text) {
		b := others[d.below(16)]
		if b != text[i] {
			isRefusedHex(t, "turned", text[:i]+string([]byte{b})+text[i+1:])
		}
	}
}

// TestHexReadByteMoreOrLess: with a byte taken out, or one put in, a text is refused.
func TestHexReadByteMoreOrLess(t *testing.T) {
	for _, many := range []int{0, 1, 8, 9} {
		text := impl.HexText(4096, wordsUp(many))
		for i := range len(text) {
			isRefusedHex(t, "less", text[:i]+text[i+1:])
			isRefusedHex(t, "cut", text[:i])
			for _, b := range []byte("0F: \n") {
				isRefusedHex(t, "more", text[:i]+string([]byte{b})+text[i:])
			}
		}
		isRefusedHex(t, "more behind", text+"0")
		isRefusedHex(t, "a line feed behind", text+"\n")
		isRefusedHex(t, "a carriage return ahead of each line feed", strings.ReplaceAll(text, "\n", "\r\n"))
		isRefusedHex(t, "no line feed", strings.TrimSuffix(text, "\n"))
	}
}

// Texts that are all right but for one thing are made of lines of eight words, of seven, and of one at some address;
// their sums are right where nothing else is said.
var (
	fullRow  = hexLine(16, 16, 0, 0, 1, 2, 3, 4, 5, 6, 7, 8, 9, 10, 11, 12, 13, 14, 15, 16)
	sevenRow = hexLine(14, 16, 0, 0, 1, 2, 3, 4, 5, 6, 7, 8, 9, 10, 11, 12, 13, 14)
)

func rowAt(high, low int) string {
	return hexLine(2, high, low, 0, 17, 18)
}

func TestHexReadRightLines(t *testing.T) {
	words := []int64{0x201, 0x403, 0x605, 0x807, 0xa09, 0xc0b, 0xe0d, 0x100f, 0x1211}
	same(t, "eight words and one", impl.HexRead(fullRow+rowAt(16, 16)+hexEnd), impl.HexOut{Base: 4096, Words: words})
	same(t, "seven words", impl.HexRead(sevenRow+hexEnd), impl.HexOut{Base: 4096, Words: words[:7]})
	same(t, "one word", impl.HexRead(":021000000102EB\n"+hexEnd), impl.HexOut{Base: 4096, Words: words[:1]})
	same(t, "no words", impl.HexRead(hexEnd), impl.HexOut{})
}

// TestHexReadWrongEnds: ends that lack or are in a wrong place, and small letters.
func TestHexReadWrongEnds(t *testing.T) {
	cases := []struct {
		what string
		text string
	}{
		{"the empty text", ""},
		{"a line feed", "\n"},
		{"line feeds", strings.Repeat("\n", 20)},
		{"a colon", ":\n"},
		{"no end", fullRow},
		{"an end without a line feed", fullRow + ":00000001FF"},
		{"an end twice", fullRow + hexEnd + hexEnd},
		{"an end twice, of no words", hexEnd + hexEnd},
		{"an end ahead", hexEnd + fullRow},
		{"an end ahead, and one behind", hexEnd + fullRow + hexEnd},
		{"an end between", fullRow + hexEnd + rowAt(16, 16) + hexEnd},
		{"an end with an address", fullRow + hexLine(0, 16, 16, 1)},
		{"an end with an address, of no words", hexLine(0, 16, 0, 1)},
		{"an end with bytes", fullRow + hexLine(2, 0, 0, 1, 3, 4)},
		{"an end in small letters", fullRow + ":00000001ff\n"},
		{"small letters in the bytes", strings.Replace(fullRow, "0A0B", "0a0b", 1) + hexEnd},
		{"one small letter", strings.Replace(fullRow, "0A", "0a", 1) + hexEnd},
		{"a small letter in the address", strings.ToLower(rowAt(0xab, 0xcc)) + hexEnd},
	}
	for _, c := range cases {
		isRefusedHex(t, c.what, c.text)
	}
}

// TestHexReadWrongRows: lines that are long or short, that do not follow, or whose sums are wrong.
func TestHexReadWrongRows(t *testing.T) {
	cases := []struct {
		what string
		text string
	}{
		{"a line that is too short ahead of another", sevenRow + rowAt(16, 14) + hexEnd},
		{"a line of one word ahead of another", rowAt(16, 0) + rowAt(16, 2) + hexEnd},
		{"a line that is too long", hexLine(18, 16, 0, 0, 1, 2, 3, 4, 5, 6, 7, 8, 9, 10, 11, 12, 13, 14, 15, 16, 17, 18) + hexEnd},
		{"a line without bytes", hexLine(0, 16, 0, 0) + hexEnd},
		{"a line without bytes behind", fullRow + hexLine(0, 16, 16, 0) + hexEnd},
		{"bytes that are odd", hexLine(1, 16, 0, 0, 1) + hexEnd},
		{"bytes that are odd, behind", fullRow + hexLine(3, 16, 16, 0, 1, 2, 3) + hexEnd},
		{"an address that is odd", rowAt(16, 1) + hexEnd},
		{"an address that does not follow, greater", fullRow + rowAt(16, 18) + hexEnd},
		{"an address that does not follow, less", fullRow + rowAt(16, 14) + hexEnd},
		{"an address that is there twice", fullRow + fullRow + hexEnd},
		{"lines in another order", rowAt(16, 16) + fullRow + hexEnd},
		{"words behind 65536", hexLine(4, 255, 254, 0, 1, 2, 3, 4) + hexEnd},
		{"a line behind 65536", hexLine(16, 255, 240, 0, 1, 2, 3, 4, 5, 6, 7, 8, 9, 10, 11, 12, 13, 14, 15, 16) + rowAt(0, 0) + hexEnd},
		{"another kind of line", hexLine(2, 16, 0, 2, 1, 2) + hexEnd},
		{"another kind of line behind", fullRow + hexLine(2, 16, 16, 1, 1, 2) + hexEnd},
		{"fewer bytes than it says", hexLine(4, 16, 0, 0, 1, 2) + hexEnd},
		{"more bytes than it says", hexLine(2, 16, 0, 0, 1, 2, 3, 4) + hexEnd},
		{"a sum that is wrong", ":021000000102EC\n" + hexEnd},
		{"a sum that is wrong, less", ":021000000102EA\n" + hexEnd},
		{"no sum", ":021000000102\n" + hexEnd},
		{"no colon", "021000000102EB\n" + hexEnd},
		{"another mark", ";021000000102EB\n" + hexEnd},
		{"an empty line ahead", "\n" + fullRow + hexEnd},
		{"an empty line between", fullRow + "\n" + hexEnd},
		{"a blank ahead", " " + fullRow + hexEnd},
		{"a blank behind", fullRow + hexEnd[:len(hexEnd)-1] + " \n"},
		{"a sign in the place of a digit", ":02+00000010202\n" + hexEnd},
		{"strokes below among the digits", ":021_000000102EB\n" + hexEnd},
		{"no hex text", "x"},
		{"bytes above 127", "\xff\xfe:\x80\n"},
		{"as long as a line, but no digits", strings.Repeat("z", 43) + "\n" + hexEnd},
	}
	for _, c := range cases {
		isRefusedHex(t, c.what, c.text)
	}
}

// TestHexReadLong: what has as many words as no HexText has is refused, and what has more than MaxBytes is not looked at.
func TestHexReadLong(t *testing.T) {
	tooLong := impl.HexOut{Code: impl.ErrSize}
	isRefusedHex(t, "MaxList words and one more", hexMeant(0, wordsUp(impl.MaxList+1)))
	most := hexMeant(0, wordsUp(1451))
	same(t, "words of MaxBytes: bytes", len(most), impl.MaxBytes)
	isRefusedHex(t, "words of MaxBytes", most)
	same(t, "words of more", impl.HexRead(hexMeant(0, wordsUp(1452))), tooLong)
	for _, piece := range []string{"\n", ":", "0", "\x00", ":00000001FF\n"} {
		text := strings.Repeat(piece, impl.MaxBytes)
		isRefusedHex(t, "MaxBytes", text[:impl.MaxBytes])
		same(t, "more", impl.HexRead((text + piece)[:impl.MaxBytes+1]), tooLong)
	}
	same(t, "far more", impl.HexRead(hexEnd+strings.Repeat("\n", 100*impl.MaxBytes)), tooLong)
}

func TestHexReadNewMemory(t *testing.T) {
	text := impl.HexText(16, wordsUp(9))
	first, second := impl.HexRead(text), impl.HexRead(text)
	first.Words[0] = 9
	same(t, "second", second, impl.HexOut{Base: 16, Words: wordsUp(9)})
	same(t, "third", impl.HexRead(text), second)
}
