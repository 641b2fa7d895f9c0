package tests

import (
	"fmt"
	"math"
	"slices"
	"testing"

	"loop.example/g00367/impl"
)

// Words that are taken apart by hand, from base 256 on.
var handTaken = []struct {
	words []int64
	rows  []impl.Row
}{
	{[]int64{0x1300}, []impl.Row{{At: 256, Text: "reti"}}},
	{[]int64{0}, []impl.Row{{At: 256, Text: ".word 0"}}},
	{[]int64{7}, []impl.Row{{At: 256, Text: ".word 7"}}},
	{[]int64{0x0fff, 0x1fff, 0xfff3}, []impl.Row{{At: 256, Text: ".word 4095"}, {At: 258, Text: ".word 8191"}, {At: 260, Text: ".word 65523"}}},
	{[]int64{0x4506, 0x4506}, []impl.Row{{At: 256, Text: "mov r5, r6"}, {At: 258, Text: "mov r5, r6"}}},
	{[]int64{0x40b6, 5, 2, 0, 0x1300}, []impl.Row{{At: 256, Text: "mov #5, 2(r6)"}, {At: 262, Text: ".word 0"}, {At: 264, Text: "reti"}}},
	// Short constants, and such as have a word of their own.
	{[]int64{0x5314, 0x5034, 1, 0x5034, 3}, []impl.Row{{At: 256, Text: "add #1, r4"}, {At: 258, Text: "add ##1, r4"}, {At: 262, Text: "add #3, r4"}}},
	{[]int64{0x1273, 0x1270, 65535}, []impl.Row{{At: 256, Text: "push.b #65535"}, {At: 258, Text: "push.b ##65535"}}},
	{[]int64{0x12b0, 0x4400, 0x12a2}, []impl.Row{{At: 256, Text: "call #17408"}, {At: 260, Text: "call #4"}}},
	{[]int64{0x44f5, 2, 0x6292, 512, 0}, []impl.Row{{At: 256, Text: "mov.b @r4+, 2(r5)"}, {At: 260, Text: "addc &512, &0"}}},
	// Jumps.
	{[]int64{0x3fff, 0x3c00, 0x23fe, 0x29ff, 0x2e00}, []impl.Row{
		{At: 256, Text: "jmp $+0"}, {At: 258, Text: "jmp $+2"}, {At: 260, Text: "jne $-2"}, {At: 262, Text: "jnc $+1024"}, {At: 264, Text: "jc $-1022"},
	}},
	// What is no Insn.
	{[]int64{0x1301, 0x1340, 0x10c4, 0x1003, 0x1030, 0x1380, 0x4483}, []impl.Row{
		{At: 256, Text: ".word 4865"}, {At: 258, Text: ".word 4928"}, {At: 260, Text: ".word 4292"}, {At: 262, Text: ".word 4099"},
		{At: 264, Text: ".word 4144"}, {At: 266, Text: ".word 4992"}, {At: 268, Text: ".word 17539"},
	}},
	// What is told as a word alone does not take the next one with it.
	{[]int64{0x1030, 0x4506}, []impl.Row{{At: 256, Text: ".word 4144"}, {At: 258, Text: "mov r5, r6"}}},
	// Words that end within an Insn.
	{[]int64{0x40b6}, []impl.Row{{At: 256, Text: ".word 16566"}}},
	{[]int64{0x40b6, 5}, []impl.Row{{At: 256, Text: ".word 16566"}, {At: 258, Text: ".word 5"}}},
	{[]int64{0x40b6, 0x1300}, []impl.Row{{At: 256, Text: ".word 16566"}, {At: 258, Text: "reti"}}},
	{[]int64{0x40b6, 0x4034}, []impl.Row{{At: 256, Text: ".word 16566"}, {At: 258, Text: ".word 16436"}}},
	{[]int64{0x40b6, 0x4034, 9}, []impl.Row{{At: 256, Text: "mov #16436, 9(r6)"}}},
	{[]int64{0x1300, 0x40b6, 0x4034}, []impl.Row{{At: 256, Text: "reti"}, {At: 258, Text: ".word 16566"}, {At: 260, Text: ".word 16436"}}},
	{[]int64{0x1300, 0x1230}, []impl.Row{{At: 256, Text: "reti"}, {At: 258, Text: ".word 4656"}}},
	{[]int64{0x4596, 0x4034, 0x4034}, []impl.Row{{At: 256, Text: "mov 16436(r5), 16436(r6)"}}},
}

func TestDisHand(t *testing.T) {
	for _, h := range handTaken {
		what := fmt.Sprint(h.words)
		same(t, what, impl.Dis(h.words, 256), h.rows)
		same(t, what+" by the other way", rowsMeant(h.words, 256), h.rows)
		same(t, what+" listed", impl.Listing(h.words, 256), listed(h.rows))
	}
	for _, h := range handMade {
		same(t, fmt.Sprint(h.words), impl.Dis(h.words, 4), []impl.Row{{At: 4, Text: impl.InsnText(h.insn)}})
	}
}

func TestDisNone(t *testing.T) {
	for _, words := range [][]int64{nil, {}, make([]int64, 5)[:0]} {
		for _, base := range []int64{0, 2, 65534, 1, -2, 65536} {
			what := fmt.Sprintf("%v at %d", words, base)
			same(t, what, len(impl.Dis(words, base)), 0)
			same(t, what+" listed", impl.Listing(words, base), "")
		}
	}
}

func TestDisOneWord(t *testing.T) {
	for n := range int64(65536) {
		words := []int64{n}
		got := impl.Dis(words, 1000)
		if !slices.Equal(got, rowsMeant(words, 1000)) || len(got) != 1 || got[0].At != 1000 {
			t.Fatalf("word %#x: got %+v", n, got)
		}
		if impl.Listing(words, 1000) != got[0].Text+"\n" {
			t.Fatalf("word %#x: listed %q", n, impl.Listing(words, 1000))
		}
	}
}

// TestDisHowMany: as many words as may be, and one more, of rows that are short and long.
func TestDisHowMany(t *testing.T) {
	for _, own := range [][]int64{{0}, {0x1300}, {0x4034, 9}, {0x4034, 1}, {0x40b6, 5, 2}, {1, 0x4034, 9}, {0x40b6, 0x40b6, 0x40b6}} {
		words := slices.Repeat(own, impl.MaxList+2)
		for _, many := range []int{impl.MaxWords, impl.MaxWords + 1, impl.MaxList - 1, impl.MaxList} {
			same(t, fmt.Sprintf("%d of %v", many, own), impl.Dis(words[:many], 100), rowsMeant(words[:many], 100))
			same(t, fmt.Sprintf("%d of %v, listed", many, own), impl.Listing(words[:many], 100), listingMeant(words[:many]))
		}
		for _, many := range []int{impl.MaxList + 1, impl.MaxList + 2, len(words)} {
			same(t, fmt.Sprintf("%d of %v", many, own), len(impl.Dis(words[:many], 100)), 0)
			same(t, fmt.Sprintf("%d of %v, listed", many, own), impl.Listing(words[:many], 100), "")
		}
	}
	same(t, "MaxList: rows", len(impl.Dis(make([]int64, impl.MaxList), 0)), impl.MaxList)
	// So many have less than 4000 bytes, if it were not for MaxList.
	same(t, "short rows, one too many", impl.Listing(make([]int64, impl.MaxList+1), 0), "")
	same(t, "short rows", len(impl.Listing(make([]int64, impl.MaxList), 0)), 8*impl.MaxList)
}

// isNotTaken: neither of both tells anything of these.
func isNotTaken(t *testing.T, words []int64, base int64) {
	t.Helper()
	if rows, text := impl.Dis(words, base), impl.Listing(words, base); len(rows) != 0 || text != "" {
		t.Errorf("%v at %d: got %+v and %q", words, base, rows, text)
	}
}

// TestDisNoWord: each number is looked at ahead of all rows, wherever it stands.
func TestDisNoWord(t *testing.T) {
	for _, n := range append([]int64{-2, 65537, 70000}, noWords...) {
		isNotTaken(t, []int64{n}, 0)
		for _, words := range [][]int64{{0x40b6, 5, 2, 0, 0x1300}, {0x1300, 0x1300, 0x1300}, make([]int64, 50), make([]int64, impl.MaxList)} {
			for place := range words {
				wrong := slices.Clone(words)
				wrong[place] = n
				isNotTaken(t, wrong, 256)
			}
			isNotTaken(t, append(slices.Clone(words), n), 256)
		}
	}
	edges := []int64{0, 65535, 0x4034, 65535, 0x4034, 0}
	same(t, "the ends of what is a word", impl.Dis(edges, 0), []impl.Row{
		{At: 0, Text: ".word 0"}, {At: 2, Text: "and.b @r15+, 16436(r15)"}, {At: 6, Text: "and.b @r15+, 16436(r15)"}, {At: 10, Text: ".word 0"},
	})
}

func TestDisBase(t *testing.T) {
	words := []int64{0x1300, 0, 0x1300}
	for _, base := range []int64{-1, -2, -4, 1, 3, 255, 65533, 65535, 65536, 65537, 65538, -65536, 131072, 1 << 32, math.MinInt64, math.MaxInt64, math.MaxInt64 - 1} {
		isNotTaken(t, words, base)
		isNotTaken(t, words[:1], base)
	}
	for _, base := range []int64{0, 2, 4, 254, 256, 32766, 32768, 65528} {
		same(t, fmt.Sprintf("at %d", base), impl.Dis(words, base), []impl.Row{
			{At: base, Text: "reti"}, {At: base + 2, Text: ".word 0"}, {At: base + 4, Text: "reti"},
		})
		same(t, fmt.Sprintf("at %d, listed", base), impl.Listing(words, base), "reti\n.word 0\nreti\n")
	}
}

// TestDisBehindTheLast: behind 65535 At begins at 0 again.
func TestDisBehindTheLast(t *testing.T) {
	same(t, "one word", impl.Dis([]int64{0x1300}, 65534), []impl.Row{{At: 65534, Text: "reti"}})
	same(t, "two words", impl.Dis([]int64{0x1300, 0x1300}, 65534), []impl.Row{{At: 65534, Text: "reti"}, {At: 0, Text: "reti"}})
	same(t, "just behind", impl.Dis([]int64{0x4034, 9, 0x1300}, 65532), []impl.Row{{At: 65532, Text: "mov #9, r4"}, {At: 0, Text: "reti"}})
	same(t, "an Insn across", impl.Dis([]int64{0x40b6, 5, 2, 0}, 65534), []impl.Row{{At: 65534, Text: "mov #5, 2(r6)"}, {At: 4, Text: ".word 0"}})
	same(t, "an Insn across, listed", impl.Listing([]int64{0x40b6, 5, 2, 0}, 65534), "mov #5, 2(r6)\n.word 0\n")
	for base := int64(65536 - 2*impl.MaxList - 4); base <= 65534; base += 2 {
		rows := impl.Dis(make([]int64, impl.MaxList), base)
		for n, row := range rows {
			if want := (base + 2*int64(n)) % 65536; row.At != want || row.Text != ".word 0" {
				t.Fatalf("row %d at %d: got %+v", n, base, row)
			}
		}
		same(t, fmt.Sprintf("rows at %d", base), len(rows), impl.MaxList)
	}
}

// TestDisReadsNoFarther: what lies in memory behind the words counts for nothing, and nothing is laid there.
func TestDisReadsNoFarther(t *testing.T) {
	memory := []int64{0x40b6, 5, 2, 0x40b6, 7, -1, 70000}
	kept := slices.Clone(memory)
	same(t, "two words", impl.Dis(memory[:2], 0), []impl.Row{{At: 0, Text: ".word 16566"}, {At: 2, Text: ".word 5"}})
	same(t, "three words", impl.Dis(memory[:3], 0), []impl.Row{{At: 0, Text: "mov #5, 2(r6)"}})
	same(t, "five words", impl.Dis(memory[:5], 0), []impl.Row{{At: 0, Text: "mov #5, 2(r6)"}, {At: 6, Text: ".word 16566"}, {At: 8, Text: ".word 7"}})
	same(t, "listed", impl.Listing(memory[:5], 0), "mov #5, 2(r6)\n.word 16566\n.word 7\n")
	same(t, "memory", memory, kept)
}

func TestDisNewMemory(t *testing.T) {
	words := []int64{0x40b6, 5, 2, 0x1300, 77, 0x1300}
	want := []impl.Row{{At: 8, Text: "mov #5, 2(r6)"}, {At: 14, Text: "reti"}, {At: 16, Text: ".word 77"}, {At: 18, Text: "reti"}}
	first, second := impl.Dis(words, 8), impl.Dis(words, 8)
	one, two := impl.Listing(words, 8), impl.Listing(words, 8)
	same(t, "handed in", words, []int64{0x40b6, 5, 2, 0x1300, 77, 0x1300})
	for i := range words {
		words[i] = 3
	}
	same(t, "behind a change of the words", first, want)
	same(t, "listed, behind a change", one, listed(want))
	if sharesMemory(one, two) {
		t.Errorf("two listings lie in one memory")
	}
	for i := range first {
		for k := range second {
			if sharesMemory(first[i].Text, second[k].Text) {
				t.Errorf("row %d of one answer and row %d of another lie in one memory", i, k)
			}
		}
		first[i] = impl.Row{}
	}
	same(t, "behind a change of the other answer", second, want)
	same(t, "asked again", impl.Dis([]int64{0x1300}, 8), []impl.Row{{At: 8, Text: "reti"}})
}
