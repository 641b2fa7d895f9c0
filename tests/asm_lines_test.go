package tests

import (
	"fmt"
	"testing"

	"loop.example/g00367/impl"
)

// assembled: what is told of a single source.
func assembled(text string) impl.ObjectOut {
	return impl.Assemble([]impl.Source{{Name: "main", Text: text}}, "main")
}

// Lines and what they lay, worked out by hand from the document.
var handLaid = []struct {
	text  string
	words []int64
	refs  []impl.Ref
}{
	{"", nil, nil},
	{"   ", nil, nil},
	{"; mov", nil, nil},
	{"  ;", nil, nil},
	{"reti", []int64{4864}, nil},
	{"mov r5, r6", []int64{0x4506}, nil},
	{"mov r5,r6", []int64{0x4506}, nil},
	{"  mov r5, r6  ; mov r6, r5", []int64{0x4506}, nil},
	{"mov r5, r6;", []int64{0x4506}, nil},
	{"mov #2, r5", []int64{0x4325}, nil},
	{"mov ##2, r5", []int64{0x4035, 2}, nil},
	{"mov #3, &0x200", []int64{0x40b2, 3, 0x200}, nil},
	{"mov.b @r4+, 2(r5)", []int64{0x44f5, 2}, nil},
	{"jmp $+0", []int64{0x3fff}, nil},
	{"jne $-1022", []int64{0x2200}, nil},
	// Words with Names in each place where one may stand.
	{"mov #a, r5", []int64{0x4035, 0}, []impl.Ref{{At: 1, Name: "a"}}},
	{"mov.b #a+1, r5", []int64{0x4075, 0}, []impl.Ref{{At: 1, Name: "a", Add: 1}}},
	{"mov #a-1, r5", []int64{0x4035, 0}, []impl.Ref{{At: 1, Name: "a", Add: -1}}},
	{"mov #a+0, r5", []int64{0x4035, 0}, []impl.Ref{{At: 1, Name: "a"}}},
	{"mov #a-0x10, r5", []int64{0x4035, 0}, []impl.Ref{{At: 1, Name: "a", Add: -16}}},
	{"mov #a+32767, r5", []int64{0x4035, 0}, []impl.Ref{{At: 1, Name: "a", Add: 32767}}},
	{"mov #a-32767, r5", []int64{0x4035, 0}, []impl.Ref{{At: 1, Name: "a", Add: -32767}}},
	{"mov &a, r5", []int64{0x4215, 0}, []impl.Ref{{At: 1, Name: "a"}}},
	{"mov a(r6), r5", []int64{0x4615, 0}, []impl.Ref{{At: 1, Name: "a"}}},
	{"mov a+2(r6), r5", []int64{0x4615, 0}, []impl.Ref{{At: 1, Name: "a", Add: 2}}},
	{"mov r5, &a-2", []int64{0x4582, 0}, []impl.Ref{{At: 1, Name: "a", Add: -2}}},
	{"mov r5, a(r0)", []int64{0x4580, 0}, []impl.Ref{{At: 1, Name: "a"}}},
	{"mov #a, &b", []int64{0x40b2, 0, 0}, []impl.Ref{{At: 1, Name: "a"}, {At: 2, Name: "b"}}},
	{"mov &b,a(r7)", []int64{0x4297, 0, 0}, []impl.Ref{{At: 1, Name: "b"}, {At: 2, Name: "a"}}},
	{"mov #1, &b", []int64{0x4392, 0}, []impl.Ref{{At: 1, Name: "b"}}},
	{"mov #5, &b", []int64{0x40b2, 5, 0}, []impl.Ref{{At: 2, Name: "b"}}},
	{"mov #b, &5", []int64{0x40b2, 0, 5}, []impl.Ref{{At: 1, Name: "b"}}},
	{"mov ##1, &b", []int64{0x40b2, 1, 0}, []impl.Ref{{At: 2, Name: "b"}}},
	{"push #a", []int64{0x1230, 0}, []impl.Ref{{At: 1, Name: "a"}}},
	{"push.b a(r4)", []int64{0x1254, 0}, []impl.Ref{{At: 1, Name: "a"}}},
	{"call #a", []int64{0x12b0, 0}, []impl.Ref{{At: 1, Name: "a"}}},
	{"call &a", []int64{0x1292, 0}, []impl.Ref{{At: 1, Name: "a"}}},
	{"rrc &a", []int64{0x1012, 0}, []impl.Ref{{At: 1, Name: "a"}}},
	// Names that are written like something else.
	{"mov #r4, r5", []int64{0x4035, 0}, []impl.Ref{{At: 1, Name: "r4"}}},
	{"mov r4(r5), r6", []int64{0x4516, 0}, []impl.Ref{{At: 1, Name: "r4"}}},
	{"mov r4+2(r5), r6", []int64{0x4516, 0}, []impl.Ref{{At: 1, Name: "r4", Add: 2}}},
	{"mov r3(r5), &r16", []int64{0x4592, 0, 0}, []impl.Ref{{At: 1, Name: "r3"}, {At: 2, Name: "r16"}}},
	{"mov #mov, &reti", []int64{0x40b2, 0, 0}, []impl.Ref{{At: 1, Name: "mov"}, {At: 2, Name: "reti"}}},
	{"jmp r4", []int64{0x3c00}, []impl.Ref{{Name: "r4", Jump: true}}},
	{"jmp jmp", []int64{0x3c00}, []impl.Ref{{Name: "jmp", Jump: true}}},
	// Jumps.
	{"jne a", []int64{0x2000}, []impl.Ref{{Name: "a", Jump: true}}},
	{"jeq a+2", []int64{0x2400}, []impl.Ref{{Name: "a", Add: 2, Jump: true}}},
	{"jnc a-3", []int64{0x2800}, []impl.Ref{{Name: "a", Add: -3, Jump: true}}},
	{"jc a", []int64{0x2c00}, []impl.Ref{{Name: "a", Jump: true}}},
	{"jn a", []int64{0x3000}, []impl.Ref{{Name: "a", Jump: true}}},
	{"jge a", []int64{0x3400}, []impl.Ref{{Name: "a", Jump: true}}},
	{"jl a-32767", []int64{0x3800}, []impl.Ref{{Name: "a", Add: -32767, Jump: true}}},
	{"jmp abcdefghijklmnopqrst", []int64{0x3c00}, []impl.Ref{{Name: "abcdefghijklmnopqrst", Jump: true}}},
	// What begins with a point.
	{".word 1", []int64{1}, nil},
	{".word 1,2, 0xffff,00007", []int64{1, 2, 65535, 7}, nil},
	{".word a", []int64{0}, []impl.Ref{{Name: "a"}}},
	{".word 7, a-2,b+3, 9", []int64{7, 0, 0, 9}, []impl.Ref{{At: 1, Name: "a", Add: -2}, {At: 2, Name: "b", Add: 3}}},
	{".word r4, mov, word", []int64{0, 0, 0}, []impl.Ref{{Name: "r4"}, {At: 1, Name: "mov"}, {At: 2, Name: "word"}}},
	{".space 1", []int64{0}, nil},
	{".space 0x3", []int64{0, 0, 0}, nil},
	{".space 00002", []int64{0, 0}, nil},
	{".space 100", make([]int64, 100), nil},
	{".space 0x64", make([]int64, 100), nil},
	{".space 00100", make([]int64, 100), nil},
}

func TestHandLaid(t *testing.T) {
	for _, h := range handLaid {
		want := impl.ObjectOut{Object: impl.Object{Words: h.words, Refs: h.refs}}
		for _, text := range []string{h.text, h.text + "\n", "\n\n" + h.text, "  " + h.text + "  \n;\n", h.text + ";" + h.text} {
			same(t, fmt.Sprintf("%q", text), assembled(text), want)
		}
		want.Object.Syms = []impl.Sym{{Name: "x"}}
		for _, ahead := range []string{"x:", "x: ", "x:    ", "  x: ", "x:\n"} {
			same(t, fmt.Sprintf("%q", ahead+h.text), assembled(ahead+h.text), want)
		}
	}
}

var refusedLines = []string{
	// Labels.
	"X:", "9:", "_a:", "a :", ":", "::", "a::", "a: b:", "a: b: reti", "a:b", "a: :", "abcdefghijklmnopqrstu:", "a.b:", "\u00e4:", "a", "a b:", "-:", "a+1:",
	".a:", ".word 1:", "reti:reti:", "reti a:",
	// What is no Insn.
	"nop", "movr5, r6", "mov r5", "mov r3, r5", "mov r5, r6, r7", "mov  r5, r6", "mov r5,  r6", "mov r5 , r6", "mov\tr5, r6", "mov r5, r6\r", "\treti", "reti\t",
	"reti reti", "reti.b", "RETI", "push", "mov #65536, r5", "mov ##3, r5", "mov r5, #1", "rrc #1",
	// Names in places where none may stand.
	"mov a, r5", "mov r5, a", "push a", "call a", "mov #a, a", "mov @a, r5", "mov @a+, r5", "mov 2(a), r5", "mov a(b), r5", "mov r5, #a", "mov r5, ##a",
	"rrc #a", "swpb #a", "rra #a", "sxt #a", "mov ##a, r5", "mov ##a+1, r5", "push ##a", "jmp #a", "jmp &a", "jmp a(r4)", "jmp $a", "jmp $+a", "jmp a, b",
	"jmp.b a", "reti a", "reti #a", "a r5, r6", "mov.a r5, r6", "swpb.b &a", "call.b #a",
	// What is no Word.
	"mov #A, r5", "mov #_a, r5", "mov #a+, r5", "mov #a-, r5", "mov #a+32768, r5", "mov #a-32768, r5", "mov #a+0x8000, r5", "mov #a+b, r5", "mov #a+1+1, r5",
	"mov #a +1, r5", "mov # a, r5", "mov #1+a, r5", "mov #1+1, r5", "mov #-1, r5", "mov #-a, r5", "mov #+a, r5", "mov a (r5), r6", "mov a( r5), r6", "mov a(r2), r5",
	"mov a(r3), r5", "mov a(r16), r5", "mov a(r04), r5", "mov a(r5, r6", "mov a(5), r6", "mov &a(r5), r6", "mov &&a, r5", "mov #&a, r5", "mov abcdefghijklmnopqrstu(r5), r6",
	"jmp", "jmp ", "jmp 4", "jmp 0x4", "jmp A", "jmp a+", "jmp a+32768", "jmp  a", "jmp a b", "jmp abcdefghijklmnopqrstu", "jmp $+1", "jmp $+1026",
	// What begins with a point.
	".", ".a", ".reti", ". word 1", ".word", ".word ", ".word1", ".word  1", ".word 1 2", ".word 1 ,2", ".word 1,  2", ".word 1,", ".word ,1", ".word 1,,2", ".word 1, , 2",
	".word 65536", ".word 000001", ".word 0x", ".word 0x10000", ".word 0xF", ".word -1", ".word +1", ".word #1", ".word a+32768", ".word A", ".word x y",
	".words 1", ".WORD 1", ".word\t1", ".word.b 1", ".word 1.", ".word $", ".word r 4",
	".space", ".space ", ".space 0", ".space 00000", ".space 0x0", ".space 101", ".space 0x65", ".space 65535", ".space 000001", ".space -1", ".space +1", ".space a", ".space 1,2",
	".space 1 1", ".space  1", ".space1", ".space #1", ".space 1.", ".space 0x",
	".global", ".global ", ".global  a", ".global A", ".global 1", ".global a b", ".global a,b", ".global a, b", ".global a+1", ".global abcdefghijklmnopqrstu", ".globala", ".global a:",
	".include", ".include ", ".include  a", ".include A", ".include 1", ".include a b", ".include a+1", ".include \"a\"", ".include abcdefghijklmnopqrstu", ".includea", ".include a.s",
	// Bytes that are no ASCII, and such that are none to be seen.
	"\u00a0", "\ufeffreti", "reti\u00a0", "\xff", "reti\xff", "reti\x00", "\x00", "\v", "\f", "\r", "\u2028", "mov #\u00e4, r5", ".word \uff11", "jmp a\u0301",
}

func TestRefusedLines(t *testing.T) {
	for _, text := range refusedLines {
		for ahead, want := range map[string]int64{"": 0, "  ": 0, "\n": 1, "x:\n;\n": 2, "x: ": 0} {
			for _, behind := range []string{"", " ", "\n", ";", " ; reti", "\nreti\n", "\nwrong"} {
				got := assembled(ahead + text + behind)
				same(t, fmt.Sprintf("%q", ahead+text+behind), got, impl.ObjectOut{File: "main", Line: want, Code: impl.ErrSyntax})
			}
		}
	}
}

func isAssembledAsMeant(t *testing.T, l []impl.Source, name string) impl.ObjectOut {
	t.Helper()
	got := impl.Assemble(l, name)
	same(t, fmt.Sprintf("%q of %q", name, l), got, assembledMeant(l, name))
	return got
}

// TestLinesNear: what is one byte beside a line is taken or refused as the document's words say.
func TestLinesNear(t *testing.T) {
	lines := []string{
		"c: mov #b+2, r5;", "a: reti", "mov #a, &b", "mov r4(r5), r6", "mov a-1(r5),b(r6)", "push #a", "call &a+0x2", "rrc.b a(r4)", "jmp a", "jl a-32767", "jge $+2", "reti",
		".word 1, a+2,b", ".word 0xff", ".space 10", ".space 100", ".space 0x64", ".global a", ".include inc", " b : reti", "c:.word a", "mov ##1, &a", "mov.b @r4+, b(r0)",
	}
	for _, text := range lines {
		for _, n := range near(text) {
			isAssembledAsMeant(t, []impl.Source{{Name: "inc", Text: "i: .word i"}, {Name: "main", Text: "a:\n" + n + "\n.word 7\nb: reti"}}, "main")
		}
	}
}
