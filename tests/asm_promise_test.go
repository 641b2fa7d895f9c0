package tests

import (
	"fmt"
	"slices"
	"testing"

	"loop.example/g00367/impl"
)

// keepsPromise5: sources that are assembled make a right object, and a line of a comment ahead of each changes nothing.
func keepsPromise5(t *testing.T, l []impl.Source, name string) {
	t.Helper()
	plain := impl.Assemble(l, name)
	if plain.Code != impl.OK || plain.File != "" || plain.Line != 0 {
		t.Fatalf("%q of %q: got %+v", name, l, plain)
	}
	if !impl.ObjectRight(plain.Object) {
		t.Fatalf("%q of %q: not right: %+v", name, l, plain.Object)
	}
	for _, comment := range []string{";\n", "; reti\n", "   ; a: .include nothing ;\n", ";\xff:\t\r\n"} {
		commented := slices.Clone(l)
		for i := range commented {
			commented[i].Text = comment + commented[i].Text
		}
		same(t, fmt.Sprintf("%q of %q", name, commented), impl.Assemble(commented, name), plain)
	}
}

func TestPromise5EachLine(t *testing.T) {
	for _, h := range handLaid {
		keepsPromise5(t, []impl.Source{{Name: "main", Text: h.text}}, "main")
		keepsPromise5(t, []impl.Source{{Name: "inc", Text: h.text}, {Name: "main", Text: "a: reti\n.include inc\nb:\n.include inc\n.global b"}}, "main")
	}
}

func TestPromise5Hand(t *testing.T) {
	l := []impl.Source{
		{Name: "data", Text: "  data: .word 1, start,end-2\n.global data ; to be seen\nbuf: .space 2"},
		{Name: "main", Text: ".global start\nstart:  mov #data, r5\nloop: cmp @r5+, &buf\n jne loop\n.include part\n.include data\nend:\n"},
		{Name: "part", Text: "; a part\nb_1:\n  call #b_1+0x10\n.include small\nc: .include small\n"},
		{Name: "small", Text: "  add 2(r4), start-4(r5)  \n\n;\n"},
	}
	want := impl.Object{
		Words: []int64{0x4035, 0, 0x95b2, 0, 0x2000, 0x12b0, 0, 0x5495, 2, 0, 0x5495, 2, 0, 1, 0, 0, 0, 0},
		Syms: []impl.Sym{
			{Name: "b_1", At: 5}, {Name: "buf", At: 16}, {Name: "c", At: 10}, {Name: "data", At: 13, Global: true},
			{Name: "end", At: 18}, {Name: "loop", At: 2}, {Name: "start", Global: true},
		},
		Refs: []impl.Ref{
			{At: 1, Name: "data"}, {At: 3, Name: "buf"}, {At: 4, Name: "loop", Jump: true}, {At: 6, Name: "b_1", Add: 16}, {At: 9, Name: "start", Add: -4},
			{At: 12, Name: "start", Add: -4}, {At: 14, Name: "start"}, {At: 15, Name: "end", Add: -2},
		},
	}
	same(t, "main", impl.Assemble(l, "main"), impl.ObjectOut{Object: want})
	for _, name := range []string{"main", "data", "part", "small"} {
		keepsPromise5(t, l, name)
	}
}

func (d *dice) pick(l []string) string {
	return l[d.below(len(l))]
}

func (d *dice) wordText(names []string) string {
	switch d.below(5) {
	case 0:
		return fmt.Sprint(d.below(65536))
	case 1:
		return fmt.Sprintf("0x%x", d.below(65536))
	case 2:
		return fmt.Sprint(d.below(10))
	case 3:
		return d.pick(names) + d.pick([]string{"+", "-"}) + fmt.Sprint(d.below(32768))
	}
	return d.pick(names)
}

func (d *dice) operandText(names []string, marks string) string {
	switch marks[d.below(len(marks))] {
	case '#':
		return "#" + d.wordText(names)
	case 'L':
		return "##" + d.pick([]string{"0", "1", "2", "4", "8", "65535"})
	case '&':
		return "&" + d.wordText(names)
	case '(':
		return fmt.Sprintf("%s(r%d)", d.wordText(names), 4+d.below(12))
	case '@':
		return fmt.Sprintf("@r%d%s", 4+d.below(12), d.pick([]string{"", "+"}))
	}
	return fmt.Sprintf("r%d", 4+d.below(12))
}

// statementText: one of the statements that lay something.
func (d *dice) statementText(names []string) string {
	switch d.below(9) {
	case 0:
		return d.pick(jumpOps) + " " + d.pick(names) + d.pick([]string{"", "+2", "-4"})
	case 1:
		return d.pick(jumpOps) + fmt.Sprintf(" $+%d", 2*d.below(512))
	case 2:
		words := d.wordText(names)
		for range d.below(4) {
			words += d.pick([]string{",", ", "}) + d.wordText(names)
		}
		return ".word " + words
	case 3:
		return fmt.Sprintf(".space %d", 1+d.below(12))
	case 4:
		return d.pick([]string{"push", "push.b", "call"}) + " " + d.operandText(names, "#L&(@r")
	case 5:
		return d.pick([]string{"rrc", "rrc.b", "swpb", "rra", "sxt"}) + " " + d.operandText(names, "&(@r")
	case 6:
		return "reti"
	}
	op := d.pick(twoOps) + d.pick([]string{"", ".b"})
	return op + " " + d.operandText(names, "#L&(@r") + d.pick([]string{",", ", "}) + d.operandText(names, "&(r")
}

func (d *dice) dressed(line string) string {
	return d.pick([]string{"", " ", "    "}) + line + d.pick([]string{"", "  ", ";", " ; x: wrong"}) + "\n"
}

// rightSources: a tree of sources, each of which has labels and is included once, and one without labels that is
// included again and again; s000 is the main one.
func (d *dice) rightSources() []impl.Source {
	l := sourcesOf(5)
	labels := []string{"zero", "r4", "mov"}
	for i := range l[:4] {
		for range d.below(5) {
			labels = append(labels, fmt.Sprintf("%s%d_%d", string(rune('a'+d.below(26))), i, len(labels)))
		}
	}
	free := labels[3:]
	names := slices.Clone(labels)
	includes := make([][]int, 4)
	for i := 1; i < 4; i++ {
		parent := d.below(i)
		includes[parent] = append(includes[parent], i)
	}
	for i := range l[:4] {
		var lines []string
		for range d.below(6) {
			label := ""
			if len(free) > 0 && d.below(2) == 0 {
				label, free = free[0]+d.pick([]string{":", ": ", ":   "}), free[1:]
			}
			lines = append(lines, label+d.statementText(names))
		}
		for _, k := range includes[i] {
			lines = slices.Insert(lines, d.below(len(lines)+1), fmt.Sprintf(".include s%03d", k))
		}
		for range d.below(3) {
			lines = slices.Insert(lines, d.below(len(lines)+1), d.pick([]string{".include s004", "", ";"}))
		}
		for _, line := range lines {
			l[i].Text += d.dressed(line)
		}
	}
	for _, label := range free {
		l[0].Text += label + ":\n"
	}
	for range d.below(4) {
		if len(labels) > 3 {
			at := d.below(4)
			l[at].Text = ".global " + d.pick(labels[3:]) + "\n" + l[at].Text
		}
	}
	for range d.below(3) {
		l[4].Text += d.dressed(d.statementText(names))
	}
	if d.below(2) == 0 {
		l[d.below(5)].Text += "  reti"
	}
	return l
}

func TestPromise5Random(t *testing.T) {
	d := dice{5}
	refs, globals, nested := 0, 0, 0
	for range 3000 {
		l := d.rightSources()
		keepsPromise5(t, l, "s000")
		out := isAssembledAsMeant(t, l, "s000")
		refs += len(out.Object.Refs)
		nested += len(impl.Closure(l, "s000"))
		for _, sym := range out.Object.Syms {
			if sym.Global {
				globals++
			}
		}
	}
	if refs < 3000 || globals < 1000 || nested < 9000 {
		t.Errorf("too little was asked: %d refs, %d globals, %d sources", refs, globals, nested)
	}
}

// TestAssembleRandom: lines at random, with faults among them, are told of as the document's words say.
func TestAssembleRandom(t *testing.T) {
	d := dice{17}
	names := []string{"a", "b", "c", "r4", "main"}
	seen := map[int64]int{}
	for range 20000 {
		l := sourcesOf(1 + d.below(4))
		for i := range l {
			for range d.below(6) {
				line := ""
				switch d.below(12) {
				case 0, 1:
					line = d.pick(names) + ":"
				case 2:
					line = fmt.Sprintf("%s: .include s%03d", d.pick(names), d.below(len(l)+1))
				case 3, 4:
					line = fmt.Sprintf(".include s%03d", d.below(len(l)+1))
				case 5:
					line = ".global " + d.pick(names)
				case 6:
					line = fmt.Sprintf(".space %d", d.below(130))
				case 7:
					line = d.pick(refusedLines)
				default:
					line = d.statementText(names)
				}
				l[i].Text += d.dressed(line)
			}
		}
		for _, s := range l {
			seen[isAssembledAsMeant(t, l, s.Name).Code]++
			same(t, fmt.Sprintf("closure of %q", l), impl.Closure(l, s.Name), closureMeant(l, s.Name))
		}
	}
	for _, code := range []int64{impl.OK, impl.ErrSyntax, impl.ErrNone, impl.ErrThere, impl.ErrDeep, impl.ErrFull} {
		if seen[code] < 20 {
			t.Errorf("code %d was told %d times", code, seen[code])
		}
	}
}
