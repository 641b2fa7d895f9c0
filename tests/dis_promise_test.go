package tests

import (
	"fmt"
	"slices"
	"testing"

	"loop.example/g00367/impl"
)

// wordsOfLine: what one line alone is assembled to; it makes neither Syms nor Refs.
func wordsOfLine(t *testing.T, text string) []int64 {
	t.Helper()
	out := impl.Assemble([]impl.Source{{Name: "a", Text: text}}, "a")
	if out.Code != impl.OK || len(out.Object.Words) == 0 || len(out.Object.Syms) != 0 || len(out.Object.Refs) != 0 {
		t.Fatalf("%q: got %+v", text, out)
	}
	return out.Object.Words
}

// keepsPromise8: words that are taken apart are assembled to just these again, row by row, and each row is as far from
// the next as it has words.
func keepsPromise8(t *testing.T, words []int64, base int64) {
	t.Helper()
	handedIn := slices.Clone(words)
	rows := impl.Dis(words, base)
	var back []int64
	for n, row := range rows {
		if want := (base + 2*int64(len(back))) % 65536; row.At != want {
			t.Fatalf("%v at %d: row %d is %+v, want At %d", words, base, n, row, want)
		}
		back = append(back, wordsOfLine(t, row.Text)...)
	}
	if !slices.Equal(back, words) {
		t.Fatalf("%v at %d: got %+v, assembled to %v", words, base, rows, back)
	}
	if !slices.Equal(words, handedIn) {
		t.Fatalf("%v at %d: are now %v", handedIn, base, words)
	}
}

// keepsPromise8Whole: the same of the rows as lines of sources, each of which has room for a hundred of them.
func keepsPromise8Whole(t *testing.T, words []int64, base int64) {
	t.Helper()
	var back []int64
	for rows := range slices.Chunk(impl.Dis(words, base), 100) {
		back = append(back, wordsOfLine(t, listed(rows))...)
	}
	if !slices.Equal(back, words) {
		t.Fatalf("%v at %d: assembled to %v", words, base, back)
	}
	if text := impl.Listing(words, base); text != "" && len(words) <= impl.MaxWords {
		if whole := wordsOfLine(t, text); !slices.Equal(whole, words) {
			t.Fatalf("%v at %d: listed %q, assembled to %v", words, base, text, whole)
		}
	}
}

// insnKeepsPromise8: a right Insn is one row, and the lines of its words cut off are words again.
func insnKeepsPromise8(t *testing.T, i impl.Insn) {
	t.Helper()
	words := impl.Encode(i)
	keepsPromise8(t, words, 512)
	want := []impl.Row{{At: 512, Text: impl.InsnText(i)}}
	if rows := impl.Dis(words, 512); !slices.Equal(rows, want) {
		t.Fatalf("%+v: got %+v", i, rows)
	}
	for many := 1; many < len(words); many++ {
		keepsPromise8(t, words[:many], 512)
		if first := impl.Dis(words[:many], 512)[0]; first.Text != fmt.Sprintf(".word %d", words[0]) {
			t.Fatalf("%+v, %d words of it: got %+v", i, many, first)
		}
	}
}

func TestPromise8TwoOperands(t *testing.T) {
	dsts := dstOperands()
	for n, src := range srcOperands() {
		for k, dst := range dsts {
			insnKeepsPromise8(t, impl.Insn{Op: twoOps[(n+k)%len(twoOps)], Byte: (n+k/2)%2 == 1, Src: src, Dst: dst})
		}
	}
	for _, op := range twoOps {
		for _, b := range []bool{false, true} {
			for _, src := range srcOperands() {
				insnKeepsPromise8(t, impl.Insn{Op: op, Byte: b, Src: src, Dst: reg(5)})
			}
		}
	}
}

func TestPromise8OneOperand(t *testing.T) {
	for _, op := range oneOps {
		for _, src := range srcOperands() {
			for _, b := range []bool{false, true} {
				if i := (impl.Insn{Op: op, Byte: b, Src: src}); impl.InsnRight(i) {
					insnKeepsPromise8(t, i)
				}
			}
		}
	}
	insnKeepsPromise8(t, impl.Insn{Op: "reti"})
}

func TestPromise8Jumps(t *testing.T) {
	for _, op := range jumpOps {
		for jump := int64(-512); jump <= 511; jump++ {
			insnKeepsPromise8(t, impl.Insn{Op: op, Jump: jump})
		}
	}
}

// TestPromise8EveryFirstWord: also those of no Insn, with few words behind them, and with such as are short ones.
func TestPromise8EveryFirstWord(t *testing.T) {
	tails := [][]int64{{}, {1}, {0x40b6}, {8, 65535}, {7, 0x1300, 0}}
	for word := range int64(65536) {
		tail := tails[(word+word>>4+word>>8)%int64(len(tails))]
		words := append([]int64{word}, tail...)
		keepsPromise8(t, words, 65532)
		if got := impl.Dis(words, 65532); !slices.Equal(got, rowsMeant(words, 65532)) {
			t.Fatalf("%v: got %+v", words, got)
		}
	}
}

// TestPromise8EveryN: in a word of its own N may be any word.
func TestPromise8EveryN(t *testing.T) {
	for n := range int64(65536) {
		keepsPromise8(t, []int64{0x4034, n, 0x1230, n}, 0)
	}
	for _, n := range wordEdges {
		keepsPromise8(t, []int64{0x40b2, n, n, 0x4292, n, n, 0x4495, n, n, 0x12b0, n, 0x1270, n}, 0)
	}
}

func TestPromise8Random(t *testing.T) {
	d := dice{8}
	insns, others := 0, 0
	for range 4000 {
		words := d.anyWords(d.below(40))
		base := int64(2 * d.below(32768))
		keepsPromise8(t, words, base)
		keepsPromise8Whole(t, words, base)
		want := rowsMeant(words, base)
		same(t, fmt.Sprintf("%v at %d", words, base), impl.Dis(words, base), want)
		for _, row := range want {
			if row.Text[0] == '.' {
				others++
			} else {
				insns++
			}
		}
	}
	if insns < 10000 || others < 10000 {
		t.Errorf("too little was asked: %d Insns, %d words", insns, others)
	}
}

// TestPromise8Many: up to MaxList words, which more than one source has room for.
func TestPromise8Many(t *testing.T) {
	d := dice{88}
	for _, many := range []int{100, 200, impl.MaxWords, impl.MaxWords + 1, impl.MaxList - 1, impl.MaxList} {
		for range 60 {
			words := d.anyWords(many)
			base := int64(2 * d.below(32768))
			keepsPromise8Whole(t, words, base)
			same(t, fmt.Sprintf("%v at %d", words, base), impl.Dis(words, base), rowsMeant(words, base))
			same(t, fmt.Sprintf("%v at %d, listed", words, base), impl.Listing(words, base), listingMeant(words))
		}
	}
}
