package tests

import (
	"fmt"
	"slices"
	"strings"
	"testing"

	"loop.example/g00367/impl"
)

// fault: what is told with a code, and nothing beside it.
func fault(file string, line int64, code int64) impl.ObjectOut {
	return impl.ObjectOut{File: file, Line: line, Code: code}
}

func TestAssembleAheadOfLines(t *testing.T) {
	right := []impl.Source{{Name: "a", Text: "reti"}, {Name: "b", Text: "wrong"}}
	falling := []impl.Source{{Name: "b"}, {Name: "a"}}
	longName := strings.Repeat("a", impl.MaxBytes)
	cases := []struct {
		what string
		l    []impl.Source
		name string
		want impl.ObjectOut
	}{
		{"right", right, "a", impl.ObjectOut{Object: impl.Object{Words: []int64{4864}}}},
		{"more than MaxList", sourcesOf(impl.MaxList + 1), "s000", fault("", 0, impl.ErrSize)},
		{"MaxList", sourcesOf(impl.MaxList), "s000", fault("", 0, impl.ErrForm)},
		{"a Name of more than MaxBytes", right, longName + "a", fault("", 0, impl.ErrSize)},
		{"a Name of more than MaxBytes, not right", falling, longName + "a", fault("", 0, impl.ErrSize)},
		{"a Name of MaxBytes", right, longName, fault("", 0, impl.ErrNone)},
		{"a Name of MaxBytes, not right", falling, longName, fault("", 0, impl.ErrForm)},
		{"falling", falling, "a", fault("", 0, impl.ErrForm)},
		{"falling, no such Name", falling, "c", fault("", 0, impl.ErrForm)},
		{"alike", []impl.Source{{Name: "a"}, {Name: "a"}}, "a", fault("", 0, impl.ErrForm)},
		{"a Name that is none", []impl.Source{{Name: "A"}}, "A", fault("", 0, impl.ErrForm)},
		{"a Text of 4001 bytes that is not asked for", []impl.Source{{Name: "a"}, {Name: "b", Text: strings.Repeat("\n", 4001)}}, "a", fault("", 0, impl.ErrForm)},
		{"a Text of 4000 bytes", []impl.Source{{Name: "a", Text: strings.Repeat("\n", 4000)}}, "a", impl.ObjectOut{}},
		{"20", sourcesOf(20), "s019", impl.ObjectOut{}},
		{"21", sourcesOf(21), "s019", fault("", 0, impl.ErrForm)},
		{"no such Name", right, "c", fault("", 0, impl.ErrNone)},
		{"the empty Name", right, "", fault("", 0, impl.ErrNone)},
		{"no Name of a source", right, "A b", fault("", 0, impl.ErrNone)},
		{"no sources", nil, "a", fault("", 0, impl.ErrNone)},
		{"wrong lines of what is not included", right, "a", impl.ObjectOut{Object: impl.Object{Words: []int64{4864}}}},
		{"wrong lines", right, "b", fault("b", 0, impl.ErrSyntax)},
	}
	for _, c := range cases {
		same(t, c.what, impl.Assemble(c.l, c.name), c.want)
	}
}

// TestAssembleFaults: the sources inc, deep (includes inc), round (includes itself), bad, twice (a label) and main.
func TestAssembleFaults(t *testing.T) {
	cases := []struct {
		what string
		main string
		want impl.ObjectOut
	}{
		{"a label twice", "a:\na:", fault("main", 1, impl.ErrThere)},
		{"a label twice, more behind it", "a: reti\n;\n  a: reti ; x", fault("main", 2, impl.ErrThere)},
		{"a label twice, and no statement", "a:\na: wrong", fault("main", 1, impl.ErrThere)},
		{"a label twice, and no source", "a:\na: .include nothing", fault("main", 1, impl.ErrThere)},
		{"a label twice, and a source", "a:\na: .include bad", fault("main", 1, impl.ErrThere)},
		{"a label twice, and too many words", "a: " + word(300) + "\na: reti", fault("main", 1, impl.ErrThere)},
		{"a label twice, one of it Global", ".global a\na:\na:", fault("main", 2, impl.ErrThere)},
		{"a label of what is included", "x:\n.include twice", fault("twice", 0, impl.ErrThere)},
		{"a label of what was included", ".include twice\n\nx:", fault("main", 2, impl.ErrThere)},
		{"what is included twice, with a label", ".include twice\n.include twice", fault("twice", 0, impl.ErrThere)},
		{"no statement", "reti\nwrong", fault("main", 1, impl.ErrSyntax)},
		{"no statement behind a label", "reti\na: wrong", fault("main", 1, impl.ErrSyntax)},
		{"no statement, with words full", word(300) + "\nwrong", fault("main", 1, impl.ErrSyntax)},
		{"no statement in what is included", "reti\n.include bad\nwrong", fault("bad", 2, impl.ErrSyntax)},
		{"no statement ahead of what is not there", "wrong\n.include nothing", fault("main", 0, impl.ErrSyntax)},
		{"no source", "\n.include nothing\n", fault("main", 1, impl.ErrNone)},
		{"no source behind a label", "a: .include nothing", fault("main", 0, impl.ErrNone)},
		{"no source, ahead of a fault", ".include nothing\nwrong", fault("main", 0, impl.ErrNone)},
		{"no source, with words full", word(300) + "\n.include nothing", fault("main", 1, impl.ErrNone)},
		{"too deep", "\n.include round", fault("round", 1, impl.ErrDeep)},
		{"too deep, itself", "\n\n.include main", fault("main", 2, impl.ErrDeep)},
		{"too deep, with words full", word(300) + "\n.include round", fault("round", 1, impl.ErrDeep)},
		{"a label in a circle", "c: .include main", fault("main", 0, impl.ErrThere)},
		{"one word too many", word(300) + "\n.word 1", fault("main", 1, impl.ErrFull)},
		{"one word too many in one line", ".space 1\n" + word(300), fault("main", 1, impl.ErrFull)},
		{"301 words of one line", word(301), fault("main", 0, impl.ErrFull)},
		{"one word too many of an Insn", word(299) + "\n;\nmov #5, r5", fault("main", 2, impl.ErrFull)},
		{"one word too many of an Insn of three", word(298) + "\na: mov #b, &b", fault("main", 1, impl.ErrFull)},
		{"one word too many of a jump", word(300) + "\na: jmp a", fault("main", 1, impl.ErrFull)},
		{"one word too many of .space", word(201) + "\n.space 100", fault("main", 1, impl.ErrFull)},
		{"one word too many in what is included", word(299) + "\n.include deep", fault("inc", 2, impl.ErrFull)},
		{"one word too many, ahead of a fault", word(301) + "\nwrong", fault("main", 0, impl.ErrFull)},
		{"a fault ahead of one word too many", "wrong\n" + word(301), fault("main", 0, impl.ErrSyntax)},
		{"one word too many, and a Global that is none", ".global z\n" + word(301), fault("main", 1, impl.ErrFull)},
		{"a Global that is none", "reti\n\n.global z", fault("main", 0, impl.ErrNone)},
		{"a Global that is none, of what is included", "reti\n.include wants", fault("main", 0, impl.ErrNone)},
		{"a Global that is none, ahead of one that is", ".global z\n.global a\na:", fault("main", 0, impl.ErrNone)},
		{"a Global that is none, behind one that is", "a:\n.global a\n.global z", fault("main", 0, impl.ErrNone)},
		{"a Global that is used, but is none", ".global z\njmp z", fault("main", 0, impl.ErrNone)},
		{"a fault behind a Global that is none", ".global z\nwrong", fault("main", 1, impl.ErrSyntax)},
	}
	for _, c := range cases {
		l := []impl.Source{
			{Name: "bad", Text: "\n\nwrong\n"}, {Name: "deep", Text: "\n.include inc"}, {Name: "inc", Text: "\n\nmov &1, r5\n"},
			{Name: "main", Text: c.main}, {Name: "round", Text: ";\n.include round"}, {Name: "twice", Text: "x: reti"}, {Name: "wants", Text: "\n.global z"},
		}
		same(t, c.what, impl.Assemble(l, "main"), c.want)
		same(t, c.what+" by the other assembler", assembledMeant(l, "main"), c.want)
	}
}

// word: a line of so many words 1.
func word(many int) string {
	return ".word " + strings.Repeat("1,", many-1) + "1"
}

func TestMaxWords(t *testing.T) {
	ones := slices.Repeat([]int64{1}, 300)
	full := []struct {
		text string
		want impl.Object
	}{
		{word(300), impl.Object{Words: ones}},
		{word(300) + "\n", impl.Object{Words: ones}},
		{word(300) + "\n\na:\n.global a\n.include none", impl.Object{Words: ones, Syms: []impl.Sym{{Name: "a", At: 300, Global: true}}}},
		{word(200) + "\n.space 100", impl.Object{Words: slices.Concat(ones[:200], make([]int64, 100))}},
		{word(297) + "\nmov #a, &a", impl.Object{Words: slices.Concat(ones[:297], []int64{0x40b2, 0, 0}), Refs: []impl.Ref{{At: 298, Name: "a"}, {At: 299, Name: "a"}}}},
		{word(299) + "\njmp a", impl.Object{Words: slices.Concat(ones[:299], []int64{0x3c00}), Refs: []impl.Ref{{At: 299, Name: "a", Jump: true}}}},
	}
	for _, f := range full {
		l := []impl.Source{{Name: "main", Text: f.text}, {Name: "none", Text: ";\n"}}
		got := impl.Assemble(l, "main")
		same(t, f.text, got, impl.ObjectOut{Object: f.want})
		same(t, "right", impl.ObjectRight(got.Object), true)
		l[0].Text += "\n.space 1"
		same(t, f.text+" and one more", impl.Assemble(l, "main"), fault("main", int64(strings.Count(l[0].Text, "\n")), impl.ErrFull))
	}
}

// chain: sources a, b .., each of which includes the next one, and the last has this text.
func chain(many int, text string) []impl.Source {
	l := sourcesOf(many)
	for i := range l[:many-1] {
		l[i].Text = fmt.Sprintf(".word %d\n.include s%03d\n.word %d", i, i+1, i)
	}
	l[many-1].Text = text
	return l
}

func TestMaxNested(t *testing.T) {
	same(t, "four within one another", impl.Assemble(chain(5, "x: .word 9"), "s000").Object,
		impl.Object{Words: []int64{0, 1, 2, 3, 9, 3, 2, 1, 0}, Syms: []impl.Sym{{Name: "x", At: 4}}})
	same(t, "five", impl.Assemble(chain(6, "x: .word 9"), "s000"), fault("s004", 1, impl.ErrDeep))
	same(t, "five, the last one empty", impl.Assemble(chain(6, ""), "s000"), fault("s004", 1, impl.ErrDeep))
	same(t, "five, from the second on", impl.Assemble(chain(6, "x: .word 9"), "s001").Object,
		impl.Object{Words: []int64{1, 2, 3, 4, 9, 4, 3, 2, 1}, Syms: []impl.Sym{{Name: "x", At: 4}}})
	same(t, "too deep and not there: not there", impl.Assemble(chain(5, ";\n.include x"), "s000"), fault("s004", 1, impl.ErrNone))
	same(t, "too deep, a label there", impl.Assemble(chain(5, "x:\nx: .include s000"), "s000"), fault("s004", 1, impl.ErrThere))
	same(t, "too deep, behind a label", impl.Assemble(chain(5, "x: .include s000"), "s000"), fault("s004", 0, impl.ErrDeep))
	same(t, "too deep, and no statement behind", impl.Assemble(chain(5, ".include s000\nwrong"), "s000"), fault("s004", 0, impl.ErrDeep))
	same(t, "too deep, and no statement ahead", impl.Assemble(chain(5, "wrong\n.include s000"), "s000"), fault("s004", 0, impl.ErrSyntax))
	// One behind the other are not within one another.
	l := []impl.Source{{Name: "a", Text: strings.Repeat(".include b\n", 6)}, {Name: "b", Text: ".include c\n.include c"}, {Name: "c", Text: "reti"}}
	same(t, "one behind the other", impl.Assemble(l, "a").Object, impl.Object{Words: slices.Repeat([]int64{4864}, 12)})
}

// TestMaxLines: five times a line and what it includes are 20000 lines, if these are 3999.
func TestMaxLines(t *testing.T) {
	four := strings.Repeat(".include z\n", 4)
	five := four + ".include z\n"
	empty := strings.Repeat("\n", 3999)
	cases := []struct {
		what string
		main string
		z    string
		want impl.ObjectOut
	}{
		{"MaxLines", five, empty, impl.ObjectOut{}},
		{"MaxLines, the last one without a line feed", strings.TrimSuffix(five, "\n"), empty, impl.ObjectOut{}},
		{"MaxLines, those of what is included, too", five, empty[1:] + " ", impl.ObjectOut{}},
		{"one more", five + "\n", empty, fault("main", 5, impl.ErrFull)},
		{"one more, a blank without a line feed", five + " ", empty, fault("main", 5, impl.ErrFull)},
		{"one more, a comment", five + ";", empty, fault("main", 5, impl.ErrFull)},
		{"one more that is no statement", five + "wrong", empty, fault("main", 5, impl.ErrFull)},
		{"one more that includes what is not there", five + ".include nothing", empty, fault("main", 5, impl.ErrFull)},
		{"one more with a label that was there", "a: " + five + "a:", empty, fault("main", 5, impl.ErrFull)},
		{"one more in what is included", five, "\n" + empty, fault("z", 3995, impl.ErrFull)},
		{"one more in what is included, without a line feed", five, empty + " ", fault("z", 3995, impl.ErrFull)},
		{"one more ahead", "\n" + five, empty, fault("z", 3998, impl.ErrFull)},
		{"one more ahead, a comment", ";\n" + five, empty, fault("z", 3998, impl.ErrFull)},
		{"one more ahead, fewer in what is included", "\n" + five, empty[1:], impl.ObjectOut{}},
		{"a fault at the last one", four + ".include y", empty, fault("y", 3998, impl.ErrSyntax)},
		{"a fault behind the last one", "\n" + four + ".include y", empty, fault("y", 3998, impl.ErrFull)},
		{"a Global that is none", ".global q\n" + four, empty, fault("main", 0, impl.ErrNone)},
		{"a Global that is none, and one more", ".global q\n" + five, empty, fault("z", 3998, impl.ErrFull)},
	}
	for _, c := range cases {
		l := []impl.Source{{Name: "main", Text: c.main}, {Name: "y", Text: empty[1:] + "?"}, {Name: "z", Text: c.z}}
		same(t, c.what, impl.Assemble(l, "main"), c.want)
		same(t, c.what+" by the other assembler", assembledMeant(l, "main"), c.want)
	}
}

// TestEmptySourceHasNoLine: of its includes just the lines that include it count.
func TestEmptySourceHasNoLine(t *testing.T) {
	// 55 times 363 lines, and one each, are 20020: the last ones of the last time are too many.
	full := strings.Repeat(".include x\n", 363)
	l := []impl.Source{{Name: "main", Text: strings.Repeat(".include y\n", 55)}, {Name: "x"}, {Name: "y", Text: full}}
	same(t, "lines", impl.Assemble(l, "main"), fault("y", 20000-54*364-1, impl.ErrFull))
	l[0].Text = strings.Repeat(".include y\n", 54) + strings.Repeat("\n", 20000-54*364)
	same(t, "as many as may be", impl.Assemble(l, "main"), impl.ObjectOut{})
	l[0].Text += "\n"
	same(t, "one more", impl.Assemble(l, "main"), fault("main", 54+20000-54*364, impl.ErrFull))
}

func TestAssembleNewMemory(t *testing.T) {
	texts := []string{".global aa\naa: mov #bb, r5\nbb: jmp aa\n.include inc", "cc: .word cc,aa", ".include inc\nwrong", ".global zz"}
	l := []impl.Source{{Name: "fail", Text: texts[2]}, {Name: "glob", Text: texts[3]}, {Name: "inc", Text: texts[1]}, {Name: "main", Text: texts[0]}}
	var handed []string
	for i := range l {
		l[i].Name, l[i].Text = strings.Clone(l[i].Name), strings.Clone(l[i].Text)
		handed = append(handed, l[i].Name, l[i].Text)
	}
	kept := slices.Clone(l)
	for _, name := range []string{"main", "fail", "glob"} {
		name = strings.Clone(name)
		out := impl.Assemble(l, name)
		told := []string{out.File}
		for _, sym := range out.Object.Syms {
			told = append(told, sym.Name)
		}
		for _, ref := range out.Object.Refs {
			told = append(told, ref.Name)
		}
		for n, got := range told {
			for _, h := range append([]string{name}, handed...) {
				if sharesMemory(got, h) {
					t.Errorf("%s: %q lies in what was handed in", name, got)
				}
			}
			for _, other := range told[:n] {
				if sharesMemory(got, other) {
					t.Errorf("%s: %q lies in another text of the answer", name, got)
				}
			}
		}
	}
	same(t, "handed in", l, kept)
}

// TestNothingIsKept: what is told does not hang on what was told ahead of it, nor on what is done to an answer.
func TestNothingIsKept(t *testing.T) {
	l := []impl.Source{{Name: "a", Text: ".global x\nx: .word x, 2\n"}, {Name: "b", Text: "x: wrong"}}
	first := impl.Assemble(l, "a")
	want := impl.Object{Words: []int64{0, 2}, Syms: []impl.Sym{{Name: "x", Global: true}}, Refs: []impl.Ref{{Name: "x"}}}
	same(t, "first", first, impl.ObjectOut{Object: want})
	first.Object.Words[1], first.Object.Syms[0], first.Object.Refs[0] = 9, impl.Sym{}, impl.Ref{}
	same(t, "between", impl.Assemble(l, "b"), fault("b", 0, impl.ErrSyntax))
	same(t, "second", impl.Assemble(l, "a"), impl.ObjectOut{Object: want})
}
