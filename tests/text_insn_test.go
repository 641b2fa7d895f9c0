package tests

import (
	"fmt"
	"regexp"
	"slices"
	"strings"
	"testing"

	"loop.example/g00367/impl"
)

const (
	regForm     = `r(0|[1-9][0-9]?)`
	operandForm = `(&` + numberForm + `|##?` + numberForm + `|@` + regForm + `\+?|` + regForm + `|` + numberForm + `\(` + regForm + `\))`
)

var (
	insnOfTwo  = regexp.MustCompile(`\A(` + strings.Join(twoOps, "|") + `)(\.b)? ` + operandForm + `, ?` + operandForm + `\z`)
	insnOfOne  = regexp.MustCompile(`\A(` + strings.Join(oneOps, "|") + `)(\.b)? ` + operandForm + `\z`)
	insnOfJump = regexp.MustCompile(`\A(` + strings.Join(jumpOps, "|") + `) \$([+-])` + numberForm + `\z`)
	// Where the second operand stands among what insnOfTwo catches.
	secondOperand = 3 + regexp.MustCompile(operandForm).NumSubexp()
)

// operandMeant: what an operand means that has its form.
func operandMeant(written string) impl.Operand {
	register := func(s string) int64 {
		return numberMeant(strings.TrimPrefix(s, "r"))
	}
	switch {
	case strings.HasPrefix(written, "##"):
		return longOne(numberMeant(written[2:]))
	case written[0] == '#':
		return immediate(numberMeant(written[1:]))
	case written[0] == '&':
		return absolute(numberMeant(written[1:]))
	case strings.HasSuffix(written, "+"):
		return atPlus(register(written[1 : len(written)-1]))
	case written[0] == '@':
		return at(register(written[1:]))
	case written[0] == 'r':
		return reg(register(written))
	}
	n, behind, _ := strings.Cut(written, "(")
	return indexed(register(strings.TrimSuffix(behind, ")")), numberMeant(n))
}

// insnMeant reads an Insn in another way than the program does, by the document's words.
func insnMeant(text string) impl.InsnOut {
	var i impl.Insn
	if text == "reti" {
		i.Op = text
	} else if m := insnOfTwo.FindStringSubmatch(text); m != nil {
		i = impl.Insn{Op: m[1], Byte: m[2] != "", Src: operandMeant(m[3]), Dst: operandMeant(m[secondOperand])}
	} else if m := insnOfOne.FindStringSubmatch(text); m != nil {
		i = impl.Insn{Op: m[1], Byte: m[2] != "", Src: operandMeant(m[3])}
	} else if m := insnOfJump.FindStringSubmatch(text); m != nil {
		far := numberMeant(m[3])
		if far%2 != 0 {
			return impl.InsnOut{Code: impl.ErrSyntax}
		}
		if m[2] == "-" {
			far = -far
		}
		i = impl.Insn{Op: m[1], Jump: far/2 - 1}
	}
	if !impl.InsnRight(i) {
		return impl.InsnOut{Code: impl.ErrSyntax}
	}
	return impl.InsnOut{Insn: i, Many: int64(len(impl.Encode(i)))}
}

func insnComesBack(t *testing.T, i impl.Insn) {
	t.Helper()
	text := impl.InsnText(i)
	want := impl.InsnOut{Insn: i, Many: int64(len(impl.Encode(i)))}
	if got := impl.InsnRead(text); text == "" || got != want {
		t.Fatalf("%+v, written %q: got %+v", i, text, got)
	}
}

func TestPromise4TwoOperands(t *testing.T) {
	for _, op := range twoOps {
		for _, b := range []bool{false, true} {
			for _, src := range srcOperands() {
				insnComesBack(t, impl.Insn{Op: op, Byte: b, Src: src, Dst: reg(3)})
				insnComesBack(t, impl.Insn{Op: op, Byte: b, Src: src, Dst: indexed(0, 4)})
			}
			for _, dst := range dstOperands() {
				insnComesBack(t, impl.Insn{Op: op, Byte: b, Src: immediate(2), Dst: dst})
				insnComesBack(t, impl.Insn{Op: op, Byte: b, Src: absolute(2), Dst: dst})
			}
		}
	}
}

// TestPromise4Pairs: each Src beside each Dst.
func TestPromise4Pairs(t *testing.T) {
	dsts := dstOperands()
	for n, src := range srcOperands() {
		for k, dst := range dsts {
			insnComesBack(t, impl.Insn{Op: twoOps[(n+k)%len(twoOps)], Byte: (n+k/2)%2 == 1, Src: src, Dst: dst})
		}
	}
}

func TestPromise4OneOperand(t *testing.T) {
	for _, op := range oneOps {
		for _, src := range srcOperands() {
			for _, b := range []bool{false, true} {
				if i := (impl.Insn{Op: op, Byte: b, Src: src}); impl.InsnRight(i) {
					insnComesBack(t, i)
				}
			}
		}
	}
	insnComesBack(t, impl.Insn{Op: "reti"})
}

func TestPromise4Jumps(t *testing.T) {
	for _, op := range jumpOps {
		for jump := int64(-512); jump <= 511; jump++ {
			insnComesBack(t, impl.Insn{Op: op, Jump: jump})
		}
	}
}

// TestPromise4EveryN: each word as N of each kind of operand that has one.
func TestPromise4EveryN(t *testing.T) {
	for n := range int64(65536) {
		insnComesBack(t, impl.Insn{Op: "push", Src: immediate(n)})
		insnComesBack(t, impl.Insn{Op: "mov", Src: absolute(n), Dst: indexed(4, 65535-n)})
		insnComesBack(t, impl.Insn{Op: "mov", Src: indexed(5, n), Dst: absolute(65535 - n)})
	}
}

// TestPromise4FirstWords: what is taken of words is written, and comes back.
func TestPromise4FirstWords(t *testing.T) {
	for word := range int64(65536) {
		if got := impl.Decode([]int64{word, 8, 9}); got.Code == impl.OK {
			same(t, "Many", impl.InsnRead(impl.InsnText(got.Insn)), got)
		}
	}
}

// Insns and how they are written, worked out by hand from the document.
var handWritten = []struct {
	insn impl.Insn
	text string
}{
	{impl.Insn{Op: "mov", Src: reg(5), Dst: reg(6)}, "mov r5, r6"},
	{impl.Insn{Op: "mov"}, "mov r0, r0"},
	{impl.Insn{Op: "mov", Src: reg(15), Dst: reg(3)}, "mov r15, r3"},
	{impl.Insn{Op: "mov", Byte: true, Src: atPlus(5), Dst: absolute(300)}, "mov.b @r5+, &300"},
	{impl.Insn{Op: "add", Src: indexed(0, 0), Dst: indexed(15, 65535)}, "add 0(r0), 65535(r15)"},
	{impl.Insn{Op: "addc", Src: absolute(0), Dst: absolute(65535)}, "addc &0, &65535"},
	{impl.Insn{Op: "subc", Src: at(0), Dst: reg(2)}, "subc @r0, r2"},
	{impl.Insn{Op: "sub", Byte: true, Src: at(10), Dst: indexed(1, 10)}, "sub.b @r10, 10(r1)"},
	{impl.Insn{Op: "cmp", Src: immediate(1), Dst: reg(4)}, "cmp #1, r4"},
	{impl.Insn{Op: "dadd", Src: longOne(1), Dst: reg(4)}, "dadd ##1, r4"},
	{impl.Insn{Op: "bit", Src: immediate(65535), Dst: reg(4)}, "bit #65535, r4"},
	{impl.Insn{Op: "bic", Src: longOne(65535), Dst: reg(4)}, "bic ##65535, r4"},
	{impl.Insn{Op: "bis", Src: longOne(0), Dst: reg(4)}, "bis ##0, r4"},
	{impl.Insn{Op: "xor", Src: immediate(3), Dst: reg(4)}, "xor #3, r4"},
	{impl.Insn{Op: "and", Src: atPlus(1), Dst: reg(4)}, "and @r1+, r4"},
	{impl.Insn{Op: "rrc", Src: reg(12)}, "rrc r12"},
	{impl.Insn{Op: "rrc"}, "rrc r0"},
	{impl.Insn{Op: "rra", Byte: true, Src: indexed(9, 6)}, "rra.b 6(r9)"},
	{impl.Insn{Op: "swpb", Src: at(4)}, "swpb @r4"},
	{impl.Insn{Op: "sxt", Src: absolute(7)}, "sxt &7"},
	{impl.Insn{Op: "push", Byte: true, Src: immediate(8)}, "push.b #8"},
	{impl.Insn{Op: "push", Src: longOne(8)}, "push ##8"},
	{impl.Insn{Op: "call", Src: immediate(17408)}, "call #17408"},
	{impl.Insn{Op: "reti"}, "reti"},
	{impl.Insn{Op: "jne", Jump: -1}, "jne $+0"},
	{impl.Insn{Op: "jeq"}, "jeq $+2"},
	{impl.Insn{Op: "jnc", Jump: 511}, "jnc $+1024"},
	{impl.Insn{Op: "jc", Jump: -512}, "jc $-1022"},
	{impl.Insn{Op: "jn", Jump: -2}, "jn $-2"},
	{impl.Insn{Op: "jge", Jump: 1}, "jge $+4"},
	{impl.Insn{Op: "jl", Jump: -3}, "jl $-4"},
	{impl.Insn{Op: "jmp", Jump: 49}, "jmp $+100"},
}

func TestHandWritten(t *testing.T) {
	for _, h := range handWritten {
		same(t, "written", impl.InsnText(h.insn), h.text)
		same(t, h.text, impl.InsnRead(h.text), impl.InsnOut{Insn: h.insn, Many: int64(len(impl.Encode(h.insn)))})
	}
}

// TestInsnReadTaken: ways of writing beside that of InsnText.
func TestInsnReadTaken(t *testing.T) {
	cases := []struct {
		text string
		insn impl.Insn
	}{
		{"mov r5,r6", impl.Insn{Op: "mov", Src: reg(5), Dst: reg(6)}},
		{"mov.b @r5+,&0x12c", impl.Insn{Op: "mov", Byte: true, Src: atPlus(5), Dst: absolute(300)}},
		{"mov 0xffff(r4), 00002(r5)", impl.Insn{Op: "mov", Src: indexed(4, 65535), Dst: indexed(5, 2)}},
		{"mov &00000,&0x0000", impl.Insn{Op: "mov", Src: absolute(0), Dst: absolute(0)}},
		{"mov #0x1, r4", impl.Insn{Op: "mov", Src: immediate(1), Dst: reg(4)}},
		{"mov #00001, r4", impl.Insn{Op: "mov", Src: immediate(1), Dst: reg(4)}},
		{"mov ##0x0001, r4", impl.Insn{Op: "mov", Src: longOne(1), Dst: reg(4)}},
		{"mov ##00008, r4", impl.Insn{Op: "mov", Src: longOne(8), Dst: reg(4)}},
		{"mov ##0xffff, r4", impl.Insn{Op: "mov", Src: longOne(65535), Dst: reg(4)}},
		{"push 0xa(r10)", impl.Insn{Op: "push", Src: indexed(10, 10)}},
		{"jmp $-0", impl.Insn{Op: "jmp", Jump: -1}},
		{"jmp $-0x0", impl.Insn{Op: "jmp", Jump: -1}},
		{"jmp $-00000", impl.Insn{Op: "jmp", Jump: -1}},
		{"jmp $+0x0000", impl.Insn{Op: "jmp", Jump: -1}},
		{"jmp $+00002", impl.Insn{Op: "jmp"}},
		{"jmp $+0x400", impl.Insn{Op: "jmp", Jump: 511}},
		{"jmp $-0x3fe", impl.Insn{Op: "jmp", Jump: -512}},
		{"jmp $-01022", impl.Insn{Op: "jmp", Jump: -512}},
	}
	for _, c := range cases {
		same(t, c.text, impl.InsnRead(c.text), impl.InsnOut{Insn: c.insn, Many: int64(len(impl.Encode(c.insn)))})
	}
}

var refusedInsns = []string{
	"", " ", "mo", "movx r4, r5", "MOV r4, r5", "Mov r4, r5", "nop", "ret", "r4", "mov", "mov ", "mov.b", "mov r4", "mov r4,", "mov r4, ",
	"mov , r5", "mov r4 r5", "mov r4 ,r5", "mov r4,  r5", "mov  r4, r5", " mov r4, r5", "mov r4, r5 ", "mov r4, r5\n", "mov\tr4, r5", "mov r4,\tr5",
	"mov r4, r5, r6", "mov r4; r5", "movr4, r5", "mov.br4, r5", "mov.w r4, r5", "mov.B r4, r5", "mov .b r4, r5", "mov. r4, r5", "mov.b.b r4, r5",
	// Registers.
	"mov r3, r4", "mov r16, r4", "mov r4, r16", "mov r04, r5", "mov r4, r05", "mov r00, r5", "mov r0x4, r5", "mov r, r5", "mov R4, r5", "mov r4, r-1",
	"mov r4, r015", "mov r4, r100", "mov @r04, r5", "mov @r0x4+, r5", "mov 2(r04), r5", "mov 2(r0x4), r5", "mov pc, r5", "mov 4, r5", "mov (r4), r5",
	// Where an operand may not be.
	"mov 2(r2), r4", "mov 2(r3), r4", "mov r4, 2(r2)", "mov r4, 2(r3)", "mov @r2, r4", "mov @r3, r4", "mov @r0+, r4", "mov @r2+, r4", "mov @r3+, r4",
	"mov r4, @r5", "mov r4, @r5+", "mov r4, #1", "mov r4, #300", "mov r4, ##1", "rrc #1", "swpb #300", "rra ##1", "sxt #0", "push r3", "call r3",
	"swpb.b r4", "sxt.b r4", "call.b r4", "reti.b", "reti ", "reti r4", "reti r0", "retir0", "push", "push ", "push r4, r5", "push r4,",
	// Numbers.
	"mov #, r4", "mov ##, r4", "mov ###1, r4", "mov # 1, r4", "mov #-1, r4", "mov #+1, r4", "mov #65536, r4", "mov #000001, r4", "mov #0x00001, r4",
	"mov #0x, r4", "mov #0X1, r4", "mov #0xFF, r4", "mov #0x10000, r4", "mov ##3, r4", "mov ##5, r4", "mov ##65534, r4", "mov ##0x3, r4", "mov ##16, r4",
	"mov #a, r4", "mov &a, r4", "mov a(r4), r5", "mov #a+1, r4", "push a", "mov &65536, r4", "mov &, r4", "mov & 1, r4", "mov 65536(r4), r5",
	"mov -1(r4), r5", "mov 2 (r4), r5", "mov 2( r4), r5", "mov 2(r4 ), r5", "mov 2(r4, r5", "mov 2r4), r5", "mov 2(4), r5", "mov 2(), r5", "mov 2(r4)+, r5",
	"mov @, r4", "mov @4, r5", "mov @ r4, r5", "mov @r4 +, r5", "mov @r4++, r5", "mov @r4-, r5", "mov r4+, r5",
	// Jumps.
	"jmp", "jmp ", "jmp $", "jmp $+", "jmp $-", "jmp $0", "jmp $2", "jmp +2", "jmp 2", "jmp a", "jmp r4", "jmp #2", "jmp $+1", "jmp $-1", "jmp $+1023",
	"jmp $+1025", "jmp $+1026", "jmp $-1023", "jmp $-1024", "jmp $+65534", "jmp $-65534", "jmp $+65536", "jmp $+000002", "jmp $+0x00002", "jmp $+0X2",
	"jmp $++2", "jmp $+-2", "jmp $ +2", "jmp $+ 2", "jmp  $+2", "jmp $+2 ", "jmp.b $+2", "jmp$+2", "jmp $+2, r4", "jmp $+a", "jmp $+0xA", "jz $+2",
	// Bytes that are no ASCII.
	"mov r4,\u00a0r5", "mov\u00a0r4, r5", "mov r4, r\u0665", "mov #\uff11, r4", "mov #1\xff, r4", "\xffmov r4, r5", "mov r4, r5\xff", "mov r4, r5\x00", "\ufeffreti",
}

func TestInsnReadRefused(t *testing.T) {
	for _, text := range refusedInsns {
		same(t, text, impl.InsnRead(text), impl.InsnOut{Code: impl.ErrSyntax})
		same(t, text+" by the other reader", insnMeant(text).Code, int64(impl.ErrSyntax))
	}
}

func isReadAsMeant(t *testing.T, text string) {
	t.Helper()
	if got, want := impl.InsnRead(text), insnMeant(text); got != want {
		t.Errorf("%q: got %+v, want %+v", text, got, want)
	}
}

// TestInsnReadNear: what is one byte beside an Insn is taken or refused as the document's words say.
func TestInsnReadNear(t *testing.T) {
	more := []string{
		"mov.b @r5+,&0x12c", "mov 0xffff(r4), 00002(r5)", "mov ##0x1,r4", "jmp $-0", "jmp $+0x400", "jmp $-01022", "jmp $+102", "push ##65535", "mov r1,r1",
	}
	for _, h := range handWritten {
		more = append(more, h.text)
	}
	for _, text := range more {
		for _, n := range near(text) {
			isReadAsMeant(t, n)
		}
	}
}

// TestInsnReadPutTogether: Insns of parts that are right, or not, each for itself.
func TestInsnReadPutTogether(t *testing.T) {
	operands := []string{"", "4", "$+4", "lab"}
	for r := range 18 {
		operands = append(operands, fmt.Sprintf("r%d", r), fmt.Sprintf("@r%d", r), fmt.Sprintf("@r%d+", r), fmt.Sprintf("%d(r%d)", r, r))
	}
	for _, n := range []string{"0", "1", "3", "8", "00004", "000004", "0xffff", "0xfffff", "0xFF", "65535", "65536"} {
		operands = append(operands, "#"+n, "##"+n, "&"+n, n+"(r4)", "$+"+n, "$-"+n)
	}
	ops := append(allOps(), "", "nop")
	for n, src := range operands {
		for _, op := range ops {
			isReadAsMeant(t, op+" "+src)
			isReadAsMeant(t, op+".b "+src)
		}
		for k, dst := range operands {
			op := ops[(n+k)%len(ops)]
			for _, between := range []string{",", ", ", " ,", ",  ", " "} {
				isReadAsMeant(t, op+" "+src+between+dst)
				isReadAsMeant(t, "mov.b "+src+between+dst)
			}
		}
	}
}

// TestJumpsInBothWays: each way to a target that may be written, and what is beside them.
func TestJumpsInBothWays(t *testing.T) {
	for far := -1100; far <= 1100; far++ {
		sign := "+"
		if far < 0 {
			sign = "-"
		}
		want := impl.InsnOut{Code: impl.ErrSyntax}
		if far%2 == 0 && far >= -1022 && far <= 1024 {
			want = impl.InsnOut{Insn: impl.Insn{Op: "jc", Jump: int64(far/2 - 1)}, Many: 1}
		}
		size := max(far, -far)
		for _, number := range []string{fmt.Sprintf("%d", size), fmt.Sprintf("%05d", size), fmt.Sprintf("0x%x", size), fmt.Sprintf("0x%04x", size)} {
			same(t, sign+number, impl.InsnRead("jc $"+sign+number), want)
		}
	}
}

func TestInsnReadLimit(t *testing.T) {
	for _, fill := range []string{" ", "0", "mov ", "r4, ", "\xff", "\u00e4"} {
		text := strings.Repeat(fill, impl.MaxBytes)
		same(t, "at the limit", impl.InsnRead(text[:impl.MaxBytes]), impl.InsnOut{Code: impl.ErrSyntax})
		same(t, "over it", impl.InsnRead(text[:impl.MaxBytes]+"x"), impl.InsnOut{Code: impl.ErrSize})
	}
	same(t, "over it, an Insn at first", impl.InsnRead("reti"+strings.Repeat(" ", impl.MaxBytes)), impl.InsnOut{Code: impl.ErrSize})
}

// TestInsnTextOfWrong: the empty text; isWrong asks it of what else is not right.
func TestInsnTextOfWrong(t *testing.T) {
	same(t, "none", impl.InsnText(impl.Insn{}), "")
	for _, o := range slices.Concat(wrongOperands(), []impl.Operand{reg(3)}) {
		same(t, "Src", impl.InsnText(impl.Insn{Op: "mov", Src: o, Dst: reg(4)}), "")
		same(t, "Src alone", impl.InsnText(impl.Insn{Op: "push", Src: o}), "")
	}
	for _, o := range slices.Concat(wrongOperands(), []impl.Operand{at(4), atPlus(4), immediate(1), longOne(1)}) {
		same(t, "Dst", impl.InsnText(impl.Insn{Op: "mov", Src: reg(4), Dst: o}), "")
	}
	for _, jump := range append([]int64{-513, 512, -1024, 1024}, noWords...) {
		if jump != -1 {
			same(t, "Jump", impl.InsnText(impl.Insn{Op: "jmp", Jump: jump}), "")
		}
		same(t, "Jump of no jump", impl.InsnText(impl.Insn{Op: "mov", Src: reg(4), Dst: reg(4), Jump: jump}), "")
	}
}

func TestInsnTextNewMemory(t *testing.T) {
	for _, text := range []string{"reti", "push r4", "mov r4, r5", "jmp $+0"} {
		text = strings.Clone(text)
		got := impl.InsnRead(text).Insn
		if sharesMemory(got.Op, text) {
			t.Errorf("%s: Op lies in the text", text)
		}
		got.Op = strings.Clone(got.Op)
		if sharesMemory(impl.InsnText(got), got.Op) {
			t.Errorf("%s: what is written lies in Op", text)
		}
	}
}
