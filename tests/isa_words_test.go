package tests

import (
	"math"
	"slices"
	"testing"

	"loop.example/g00367/impl"
)

// Insns and words that are worked out by hand from the document.
var handMade = []struct {
	insn  impl.Insn
	words []int64
}{
	{impl.Insn{Op: "mov", Src: reg(5), Dst: reg(6)}, []int64{0x4506}},
	{impl.Insn{Op: "mov"}, []int64{0x4000}},
	{impl.Insn{Op: "mov", Src: reg(2), Dst: reg(3)}, []int64{0x4203}},
	{impl.Insn{Op: "mov", Src: immediate(0x1234), Dst: reg(7)}, []int64{0x4037, 0x1234}},
	{impl.Insn{Op: "mov", Byte: true, Src: atPlus(4), Dst: indexed(5, 2)}, []int64{0x44f5, 2}},
	{impl.Insn{Op: "add", Src: indexed(0, 3), Dst: indexed(0, 9)}, []int64{0x5090, 3, 9}},
	{impl.Insn{Op: "addc", Src: absolute(0x0200), Dst: absolute(0x0202)}, []int64{0x6292, 0x0200, 0x0202}},
	{impl.Insn{Op: "subc", Src: at(0), Dst: reg(15)}, []int64{0x702f}},
	{impl.Insn{Op: "sub", Src: immediate(8), Dst: reg(1)}, []int64{0x8231}},
	{impl.Insn{Op: "cmp", Src: longOne(8), Dst: reg(1)}, []int64{0x9031, 8}},
	{impl.Insn{Op: "dadd", Src: immediate(4), Dst: absolute(7)}, []int64{0xa2a2, 7}},
	{impl.Insn{Op: "bit", Src: immediate(0), Dst: reg(0)}, []int64{0xb300}},
	{impl.Insn{Op: "bic", Src: immediate(1), Dst: reg(2)}, []int64{0xc312}},
	{impl.Insn{Op: "bis", Src: immediate(2), Dst: reg(2)}, []int64{0xd322}},
	{impl.Insn{Op: "xor", Byte: true, Src: immediate(65535), Dst: reg(4)}, []int64{0xe374}},
	{impl.Insn{Op: "and", Src: longOne(65535), Dst: indexed(15, 65535)}, []int64{0xf0bf, 65535, 65535}},
	{impl.Insn{Op: "rrc", Src: reg(12)}, []int64{0x100c}},
	{impl.Insn{Op: "rrc", Byte: true, Src: at(12)}, []int64{0x106c}},
	{impl.Insn{Op: "swpb", Src: atPlus(1)}, []int64{0x10b1}},
	{impl.Insn{Op: "rra", Byte: true, Src: indexed(9, 6)}, []int64{0x1159, 6}},
	{impl.Insn{Op: "sxt", Src: absolute(0xffff)}, []int64{0x1192, 0xffff}},
	{impl.Insn{Op: "push", Src: reg(11)}, []int64{0x120b}},
	{impl.Insn{Op: "push", Byte: true, Src: immediate(1)}, []int64{0x1253}},
	{impl.Insn{Op: "push", Src: longOne(0)}, []int64{0x1230, 0}},
	{impl.Insn{Op: "call", Src: immediate(0x4400)}, []int64{0x12b0, 0x4400}},
	{impl.Insn{Op: "call", Src: immediate(4)}, []int64{0x12a2}},
	{impl.Insn{Op: "reti"}, []int64{4864}},
	{impl.Insn{Op: "jne", Jump: -1}, []int64{0x23ff}},
	{impl.Insn{Op: "jeq"}, []int64{0x2400}},
	{impl.Insn{Op: "jnc", Jump: 511}, []int64{0x29ff}},
	{impl.Insn{Op: "jc", Jump: -512}, []int64{0x2e00}},
	{impl.Insn{Op: "jn", Jump: 1}, []int64{0x3001}},
	{impl.Insn{Op: "jge", Jump: -511}, []int64{0x3601}},
	{impl.Insn{Op: "jl", Jump: 256}, []int64{0x3900}},
	{impl.Insn{Op: "jmp", Jump: -1}, []int64{0x3fff}},
}

func TestHandMadeWords(t *testing.T) {
	for _, h := range handMade {
		same(t, h.insn.Op, impl.Encode(h.insn), h.words)
		same(t, h.insn.Op+" back", impl.Decode(h.words), impl.InsnOut{Insn: h.insn, Many: int64(len(h.words))})
	}
}

// comesBack: promise 3, its first half, with several things behind the words.
func comesBack(t *testing.T, i impl.Insn) {
	t.Helper()
	words := impl.Encode(i)
	want := impl.InsnOut{Insn: i, Many: int64(len(words))}
	for _, behind := range [][]int64{nil, {0}, {65535, 1, 2}, words, {0x40b6}, make([]int64, impl.MaxList-len(words))} {
		got := impl.Decode(slices.Concat(words, behind))
		if got != want {
			t.Errorf("%+v, words %v, behind them %v: got %+v", i, words, behind, got)
			return
		}
	}
	for many := range words {
		if got := impl.Decode(words[:many]); got != (impl.InsnOut{Code: impl.ErrShort}) {
			t.Errorf("%+v, %d of words %v: got %+v", i, many, words, got)
		}
	}
}

func TestPromise3TwoOperands(t *testing.T) {
	for _, op := range twoOps {
		for _, b := range []bool{false, true} {
			for _, src := range srcOperands() {
				comesBack(t, impl.Insn{Op: op, Byte: b, Src: src, Dst: reg(3)})
				comesBack(t, impl.Insn{Op: op, Byte: b, Src: src, Dst: indexed(0, 4)})
			}
			for _, dst := range dstOperands() {
				comesBack(t, impl.Insn{Op: op, Byte: b, Src: immediate(2), Dst: dst})
				comesBack(t, impl.Insn{Op: op, Byte: b, Src: absolute(2), Dst: dst})
			}
		}
	}
}

// TestPromise3Pairs: each Src beside each Dst.
func TestPromise3Pairs(t *testing.T) {
	dsts := dstOperands()
	for n, src := range srcOperands() {
		for k, dst := range dsts {
			comesBack(t, impl.Insn{Op: twoOps[(n+k)%len(twoOps)], Byte: (n+k/2)%2 == 1, Src: src, Dst: dst})
		}
	}
}

func TestPromise3OneOperand(t *testing.T) {
	for _, op := range oneOps {
		for _, src := range srcOperands() {
			for _, b := range []bool{false, true} {
				if i := (impl.Insn{Op: op, Byte: b, Src: src}); impl.InsnRight(i) {
					comesBack(t, i)
				}
			}
		}
	}
	comesBack(t, impl.Insn{Op: "reti"})
}

func TestPromise3Jumps(t *testing.T) {
	for _, op := range jumpOps {
		for jump := int64(-512); jump <= 511; jump++ {
			comesBack(t, impl.Insn{Op: op, Jump: jump})
		}
	}
}

// TestNoTwoInsnsOfTheSameWords: words would not tell which of them it was.
func TestNoTwoInsnsOfTheSameWords(t *testing.T) {
	seen := map[[3]int64]impl.Insn{}
	note := func(i impl.Insn) {
		words := impl.Encode(i)
		key := [3]int64{-1, -1, -1}
		copy(key[:], words)
		if other, there := seen[key]; there {
			t.Errorf("%+v and %+v have the same words %v", i, other, words)
		}
		seen[key] = i
	}
	for _, op := range twoOps {
		for _, src := range srcOperands() {
			note(impl.Insn{Op: op, Src: src, Dst: reg(4)})
			note(impl.Insn{Op: op, Byte: true, Src: src, Dst: absolute(4)})
		}
	}
	for _, op := range []string{"push", "call"} {
		for _, src := range srcOperands() {
			note(impl.Insn{Op: op, Src: src})
		}
	}
}

// behindFirst: how many words stand behind a first one; -1, if no right Insn has it. It is told from the document's bits.
func behindFirst(word int64) int {
	as := word >> 4 & 3
	ofSrc := func(reg int64) int {
		if as == 1 && reg != 3 || as == 3 && reg == 0 {
			return 1
		}
		return 0
	}
	switch top := word >> 12; {
	case top >= 4:
		many := ofSrc(word >> 8 & 15)
		if word>>7&1 == 1 {
			if word&15 == 3 {
				return -1
			}
			many++
		}
		return many
	case top >= 2:
		return 0
	case word>>10 != 4:
		return -1
	}
	reg, number, byteSet := word&15, word>>7&7, word>>6&1 == 1
	constant := reg == 3 || reg == 2 && as >= 2 || reg == 0 && as == 3
	switch {
	case number == 7,
		number == 6 && word != 4864,
		byteSet && (number == 1 || number == 3 || number == 5),
		constant && number < 4:
		return -1
	}
	return ofSrc(reg)
}

// TestPromise3EveryFirstWord: what is taken of words is told by just these.
func TestPromise3EveryFirstWord(t *testing.T) {
	right := 0
	for word := range int64(65536) {
		many := behindFirst(word)
		for _, tail := range [][]int64{{7, 9, 11}, {8, 65535, 0}, {0, 0}} {
			got := impl.Decode(append([]int64{word}, tail...))
			if many < 0 {
				if got != (impl.InsnOut{Code: impl.ErrSyntax}) {
					t.Fatalf("word %#x: got %+v", word, got)
				}
				continue
			}
			if got.Code != impl.OK || got.Many != int64(many+1) || !impl.InsnRight(got.Insn) {
				t.Fatalf("word %#x: got %+v, want %d words", word, got, many+1)
			}
			want := append([]int64{word}, tail[:many]...)
			if back := impl.Encode(got.Insn); !slices.Equal(back, want) {
				t.Fatalf("words %v: got %+v, whose words are %v", want, got, back)
			}
			comesBack(t, got.Insn)
		}
		if many >= 0 {
			right++
		}
	}
	// Of two: 12 operations, with Byte or without, 64 Srcs, 31 Dsts. Of one: 57 Srcs that are no constant, 7 that are.
	same(t, "first words", right, 12*2*64*31+(2+1+2+1)*57+(2+1)*64+1+8*1024)
}

// TestLongOfOwnWord: an OpImmediate of a word of its own is Long just if it is a short one.
func TestLongOfOwnWord(t *testing.T) {
	for n := range int64(65536) {
		want := immediate(n)
		want.Long = slices.Contains(shorts, n)
		got := impl.Decode([]int64{0x4034, n})
		if got != (impl.InsnOut{Insn: impl.Insn{Op: "mov", Src: want, Dst: reg(4)}, Many: 2}) {
			t.Fatalf("%d: got %+v", n, got)
		}
	}
	// Nothing else is Long, whatever its N.
	for _, n := range shorts {
		same(t, "absolute", impl.Decode([]int64{0x4292, n, n}).Insn, impl.Insn{Op: "mov", Src: absolute(n), Dst: absolute(n)})
		same(t, "indexed", impl.Decode([]int64{0x4495, n, n}).Insn, impl.Insn{Op: "mov", Src: indexed(4, n), Dst: indexed(5, n)})
	}
}

func TestDecodeRefusals(t *testing.T) {
	row := func(many int, first ...int64) []int64 {
		out := make([]int64, many)
		copy(out, first)
		return out
	}
	cases := []struct {
		what  string
		words []int64
		code  int64
	}{
		{"none", nil, impl.ErrShort},
		{"an empty list", []int64{}, impl.ErrShort},
		{"no Insn", []int64{0}, impl.ErrSyntax},
		{"below those of one operand", []int64{0x0fff}, impl.ErrSyntax},
		{"behind those of one operand", []int64{0x1400}, impl.ErrSyntax},
		{"ahead of jumps", []int64{0x1fff}, impl.ErrSyntax},
		{"number 7 of one operand", []int64{0x1380}, impl.ErrSyntax},
		{"reti with a register", []int64{0x1301}, impl.ErrSyntax},
		{"reti with Byte", []int64{0x1340}, impl.ErrSyntax},
		{"reti with an operand", []int64{0x1330, 0}, impl.ErrSyntax},
		{"swpb with Byte", []int64{0x10c4}, impl.ErrSyntax},
		{"sxt with Byte", []int64{0x11c4}, impl.ErrSyntax},
		{"call with Byte", []int64{0x12c4}, impl.ErrSyntax},
		{"rrc of a constant", []int64{0x1003}, impl.ErrSyntax},
		{"rra of a constant", []int64{0x1122}, impl.ErrSyntax},
		{"Dst of register 3 that is indexed", []int64{0x4483, 5}, impl.ErrSyntax},
		{"no word of two", []int64{0x40b6}, impl.ErrShort},
		{"one word of two", []int64{0x40b6, 5}, impl.ErrShort},
		{"no word of one", []int64{0x4034}, impl.ErrShort},
		{"no word of Dst", []int64{0x4484}, impl.ErrShort},
		{"no word of one operand", []int64{0x1230}, impl.ErrShort},
		{"no word of one that is indexed", []int64{0x1010}, impl.ErrShort},
		{"too long", row(401, 0x4506), impl.ErrSize},
		{"as long as may be", row(400, 0), impl.ErrSyntax},
		// The first fault of several is told.
		{"no Insn, and too few words", []int64{0x4093}, impl.ErrSyntax},
		{"a constant of rrc, and too few words", []int64{0x1030}, impl.ErrSyntax},
		{"no word, and no Insn", []int64{0, -1}, impl.ErrForm},
		{"no word, and too few", []int64{0x40b6, 65536}, impl.ErrForm},
		{"no word, and too long", append(row(400), -1), impl.ErrSize},
		{"too long, and no Insn", row(401), impl.ErrSize},
	}
	for _, c := range cases {
		same(t, c.what, impl.Decode(c.words), impl.InsnOut{Code: c.code})
	}
}

// TestDecodeNoWord: each number is looked at, also behind the Insn's words.
func TestDecodeNoWord(t *testing.T) {
	for _, n := range append([]int64{math.MinInt64 + 1, -2, 65537, 70000}, noWords...) {
		for place := range 400 {
			words := make([]int64, 400)
			words[0] = 0x4506
			words[place] = n
			same(t, "no word", impl.Decode(words), impl.InsnOut{Code: impl.ErrForm})
		}
	}
	words := make([]int64, 400)
	words[0] = 0x4506
	words[399] = 65535
	same(t, "words alone", impl.Decode(words), impl.InsnOut{Insn: impl.Insn{Op: "mov", Src: reg(5), Dst: reg(6)}, Many: 1})
}

// TestIsaLeavesArguments: what is handed in is not changed, and answers are new memory.
func TestIsaLeavesArguments(t *testing.T) {
	words := []int64{0x40b6, 5, 2, 9}
	impl.Decode(words)
	same(t, "words", words, []int64{0x40b6, 5, 2, 9})
	i := impl.Insn{Op: "mov", Src: immediate(5), Dst: indexed(6, 2)}
	first, second := impl.Encode(i), impl.Encode(i)
	first[0], first[1] = 0, 0
	same(t, "the other answer", second, words[:3])
}
