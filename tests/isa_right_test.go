package tests

import (
	"math"
	"slices"
	"testing"

	"loop.example/g00367/impl"
)

// Operands that the tests of instructions are made of.
func reg(r int64) impl.Operand        { return impl.Operand{Mode: impl.OpReg, Reg: r} }
func indexed(r, n int64) impl.Operand { return impl.Operand{Mode: impl.OpIndexed, Reg: r, N: n} }
func absolute(n int64) impl.Operand   { return impl.Operand{Mode: impl.OpAbsolute, N: n} }
func at(r int64) impl.Operand         { return impl.Operand{Mode: impl.OpAt, Reg: r} }
func atPlus(r int64) impl.Operand     { return impl.Operand{Mode: impl.OpAtPlus, Reg: r} }
func immediate(n int64) impl.Operand  { return impl.Operand{Mode: impl.OpImmediate, N: n} }
func longOne(n int64) impl.Operand    { return impl.Operand{Mode: impl.OpImmediate, N: n, Long: true} }

var (
	twoOps  = []string{"mov", "add", "addc", "subc", "sub", "cmp", "dadd", "bit", "bic", "bis", "xor", "and"}
	oneOps  = []string{"rrc", "swpb", "rra", "sxt", "push", "call"}
	jumpOps = []string{"jne", "jeq", "jnc", "jc", "jn", "jge", "jl", "jmp"}
	shorts  = []int64{0, 1, 2, 4, 8, 65535}
	// Words beside the short ones, and at the ends of what is a word.
	wordEdges = []int64{0, 1, 2, 3, 4, 5, 7, 8, 9, 255, 32767, 32768, 65534, 65535}
	noWords   = []int64{-1, 65536, math.MinInt64, math.MaxInt64, -65535, 1 << 32}
)

func allOps() []string {
	return slices.Concat(twoOps, oneOps, []string{"reti"}, jumpOps)
}

// plainOperands: those that may be Src and Dst, register 3 aside.
func plainOperands() []impl.Operand {
	var out []impl.Operand
	for r := range int64(16) {
		if r != 3 {
			out = append(out, reg(r))
		}
		if r == 2 || r == 3 {
			continue
		}
		for _, n := range wordEdges {
			out = append(out, indexed(r, n))
		}
	}
	for _, n := range wordEdges {
		out = append(out, absolute(n))
	}
	return out
}

func dstOperands() []impl.Operand {
	return append(plainOperands(), reg(3))
}

// changedOperands: the Srcs of an operation that writes to it.
func changedOperands() []impl.Operand {
	out := plainOperands()
	for _, r := range []int64{0, 1, 4, 5, 6, 7, 8, 9, 10, 11, 12, 13, 14, 15} {
		out = append(out, at(r))
		if r != 0 {
			out = append(out, atPlus(r))
		}
	}
	return out
}

func srcOperands() []impl.Operand {
	out := changedOperands()
	for _, n := range wordEdges {
		out = append(out, immediate(n))
	}
	for _, n := range shorts {
		out = append(out, longOne(n))
	}
	return out
}

// wrongOperands: what is neither Src nor Dst of anything.
func wrongOperands() []impl.Operand {
	var out []impl.Operand
	for _, mode := range []int64{-1, 6, 7, math.MinInt64, math.MaxInt64} {
		out = append(out, impl.Operand{Mode: mode}, impl.Operand{Mode: mode, Reg: 5}, impl.Operand{Mode: mode, N: 5})
	}
	for _, r := range []int64{-1, 16, 17, math.MinInt64, math.MaxInt64} {
		out = append(out, reg(r), indexed(r, 0), at(r), atPlus(r))
	}
	out = append(out, indexed(2, 0), indexed(3, 0), at(2), at(3), atPlus(0), atPlus(2), atPlus(3))
	for _, n := range noWords {
		out = append(out, indexed(4, n), absolute(n), immediate(n), longOne(n))
	}
	for _, n := range []int64{3, 5, 6, 7, 9, 16, 32768, 65534} {
		out = append(out, longOne(n))
	}
	return append(out,
		// What is to be zero is not.
		impl.Operand{Mode: impl.OpReg, Reg: 4, N: 1},
		impl.Operand{Mode: impl.OpReg, Reg: 4, N: -1},
		impl.Operand{Mode: impl.OpReg, Reg: 4, Long: true},
		impl.Operand{Mode: impl.OpReg, Long: true},
		impl.Operand{Mode: impl.OpIndexed, Reg: 4, N: 1, Long: true},
		impl.Operand{Mode: impl.OpIndexed, Reg: 4, Long: true},
		impl.Operand{Mode: impl.OpAbsolute, Reg: 1},
		impl.Operand{Mode: impl.OpAbsolute, Reg: 2, N: 8},
		impl.Operand{Mode: impl.OpAbsolute, N: 1, Long: true},
		impl.Operand{Mode: impl.OpAt, Reg: 4, N: 1},
		impl.Operand{Mode: impl.OpAt, Reg: 4, Long: true},
		impl.Operand{Mode: impl.OpAtPlus, Reg: 4, N: 1},
		impl.Operand{Mode: impl.OpAtPlus, Reg: 4, Long: true},
		impl.Operand{Mode: impl.OpImmediate, Reg: 1, N: 7},
		impl.Operand{Mode: impl.OpImmediate, Reg: 3, N: 1},
		impl.Operand{Mode: impl.OpImmediate, Reg: 1, N: 1, Long: true},
	)
}

func isRight(t *testing.T, i impl.Insn) {
	t.Helper()
	if !impl.InsnRight(i) {
		t.Errorf("%+v is right", i)
	}
	if len(impl.Encode(i)) == 0 {
		t.Errorf("%+v has words", i)
	}
	if impl.InsnText(i) == "" {
		t.Errorf("%+v is written in some way", i)
	}
}

func isWrong(t *testing.T, i impl.Insn) {
	t.Helper()
	if impl.InsnRight(i) {
		t.Errorf("%+v is not right", i)
	}
	if got := impl.Encode(i); len(got) != 0 {
		t.Errorf("%+v has no words, got %v", i, got)
	}
	if got := impl.InsnText(i); got != "" {
		t.Errorf("%+v is not written, got %q", i, got)
	}
}

func TestOpsInOrder(t *testing.T) {
	same(t, "Ops", impl.Ops(), allOps())
}

func TestOpsNewMemory(t *testing.T) {
	first, second := impl.Ops(), impl.Ops()
	for i := range first {
		first[i] = "gone"
	}
	_ = append(first[:0], "x", "y", "z")
	same(t, "the other answer", second, allOps())
	same(t, "Ops once more", impl.Ops(), allOps())
	isRight(t, impl.Insn{Op: "mov", Src: reg(4), Dst: reg(5)})
}

func TestRightOfTwo(t *testing.T) {
	for _, op := range twoOps {
		for _, b := range []bool{false, true} {
			for _, src := range srcOperands() {
				isRight(t, impl.Insn{Op: op, Byte: b, Src: src, Dst: reg(7)})
			}
			for _, dst := range dstOperands() {
				isRight(t, impl.Insn{Op: op, Byte: b, Src: at(7), Dst: dst})
			}
		}
		isRight(t, impl.Insn{Op: op})
	}
}

func TestWrongOfTwo(t *testing.T) {
	for _, op := range twoOps {
		for _, o := range wrongOperands() {
			isWrong(t, impl.Insn{Op: op, Src: o, Dst: reg(7)})
			isWrong(t, impl.Insn{Op: op, Src: reg(7), Dst: o})
			isWrong(t, impl.Insn{Op: op, Src: o, Dst: o})
		}
		isWrong(t, impl.Insn{Op: op, Src: reg(3), Dst: reg(7)})
		for _, dst := range []impl.Operand{at(4), at(0), atPlus(4), immediate(0), immediate(700), longOne(1)} {
			isRight(t, impl.Insn{Op: op, Src: dst, Dst: reg(7)})
			isWrong(t, impl.Insn{Op: op, Src: reg(7), Dst: dst})
		}
		for _, jump := range []int64{1, -1, 511, -512, 1024, math.MinInt64} {
			isWrong(t, impl.Insn{Op: op, Src: reg(4), Dst: reg(5), Jump: jump})
		}
	}
}

func TestRightOfOne(t *testing.T) {
	for _, op := range oneOps {
		srcs := changedOperands()
		if op == "push" || op == "call" {
			srcs = srcOperands()
		}
		byteToo := op == "rrc" || op == "rra" || op == "push"
		for _, src := range srcs {
			isRight(t, impl.Insn{Op: op, Src: src})
			if byteToo {
				isRight(t, impl.Insn{Op: op, Byte: true, Src: src})
			} else {
				isWrong(t, impl.Insn{Op: op, Byte: true, Src: src})
			}
		}
	}
}

func TestWrongOfOne(t *testing.T) {
	for _, op := range oneOps {
		for _, o := range wrongOperands() {
			isWrong(t, impl.Insn{Op: op, Src: o})
		}
		isWrong(t, impl.Insn{Op: op, Src: reg(3)})
		isRight(t, impl.Insn{Op: op, Src: reg(4)})
		isWrong(t, impl.Insn{Op: op, Src: reg(4), Jump: 1})
		isWrong(t, impl.Insn{Op: op, Src: reg(4), Jump: -1})
		for _, dst := range []impl.Operand{reg(1), reg(3), indexed(0, 0), absolute(0), immediate(0), {N: 1}, {Long: true}} {
			isWrong(t, impl.Insn{Op: op, Src: reg(4), Dst: dst})
		}
	}
	for _, op := range []string{"rrc", "swpb", "rra", "sxt"} {
		for _, n := range wordEdges {
			isWrong(t, impl.Insn{Op: op, Src: immediate(n)})
		}
		for _, n := range shorts {
			isWrong(t, impl.Insn{Op: op, Src: longOne(n)})
		}
	}
}

// TestRightWithoutOperands: reti and the jumps.
func TestRightWithoutOperands(t *testing.T) {
	isRight(t, impl.Insn{Op: "reti"})
	isWrong(t, impl.Insn{Op: "reti", Jump: 1})
	isWrong(t, impl.Insn{Op: "reti", Jump: -1})
	for _, op := range append([]string{"reti"}, jumpOps...) {
		isWrong(t, impl.Insn{Op: op, Byte: true})
		for _, o := range []impl.Operand{reg(1), reg(4), indexed(0, 0), absolute(0), at(0), atPlus(1), immediate(0), {N: 1}, {Long: true}} {
			isWrong(t, impl.Insn{Op: op, Src: o})
			isWrong(t, impl.Insn{Op: op, Dst: o})
		}
	}
	for _, op := range jumpOps {
		for jump := int64(-512); jump <= 511; jump++ {
			isRight(t, impl.Insn{Op: op, Jump: jump})
		}
		for _, jump := range []int64{-513, 512, 1023, 1024, -1024, math.MinInt64, math.MaxInt64} {
			isWrong(t, impl.Insn{Op: op, Jump: jump})
		}
	}
}

func TestWrongOp(t *testing.T) {
	for _, op := range []string{"", " ", "MOV", "mov ", " mov", "mov.b", "mo", "movx", "nop", "ret", "jz", "call\n", "\xff", long(9000)} {
		isWrong(t, impl.Insn{Op: op})
		isWrong(t, impl.Insn{Op: op, Src: reg(4), Dst: reg(5)})
		isWrong(t, impl.Insn{Op: op, Src: reg(4)})
		isWrong(t, impl.Insn{Op: op, Jump: 5})
	}
	isWrong(t, impl.Insn{})
}
