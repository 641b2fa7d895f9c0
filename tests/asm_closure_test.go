package tests

import (
	"fmt"
	"regexp"
	"slices"
	"strings"
	"testing"
	"time"

	"loop.example/g00367/impl"
)

var includeForm = regexp.MustCompile(`\A *(?:[a-z][a-z0-9_]{0,19}: *)?\.include ([a-z][a-z0-9_]{0,19}) *\z`)

// closureMeant goes into everything that is included, as often as it is: what is met first stands first.
func closureMeant(l []impl.Source, name string) []string {
	var out []string
	var meet func(name string, nested int)
	meet = func(name string, nested int) {
		for _, s := range l {
			if s.Name != name || nested > impl.MaxNested {
				continue
			}
			if !slices.Contains(out, name) {
				out = append(out, name)
			}
			for _, line := range strings.Split(s.Text, "\n") {
				line, _, _ = strings.Cut(line, ";")
				if m := includeForm.FindStringSubmatch(line); m != nil {
					meet(m[1], nested+1)
				}
			}
		}
	}
	meet(name, 0)
	return out
}

// including: sources by their Names, each a Name and those that it includes, with blanks between.
func including(rows ...string) []impl.Source {
	var out []impl.Source
	for _, row := range rows {
		names := strings.Fields(row)
		text := ""
		for _, name := range names[1:] {
			text += ".include " + name + "\n"
		}
		out = append(out, impl.Source{Name: names[0], Text: text})
	}
	return out
}

func TestClosure(t *testing.T) {
	cases := []struct {
		what string
		l    []impl.Source
		name string
		want []string
	}{
		{"alone", including("a", "b a"), "a", []string{"a"}},
		{"one", including("a", "b a"), "b", []string{"b", "a"}},
		{"more than once", including("a b b c b c", "b", "c b"), "a", []string{"a", "b", "c"}},
		{"met first, not by Names", including("a d b", "b c", "c", "d c"), "a", []string{"a", "d", "c", "b"}},
		{"gone into where it is", including("a b c", "b d", "c", "d"), "a", []string{"a", "b", "d", "c"}},
		{"itself", including("a a"), "a", []string{"a"}},
		{"itself, and one", including("a a b", "b"), "a", []string{"a", "b"}},
		{"a circle of two", including("a b", "b a"), "b", []string{"b", "a"}},
		{"a circle of three, from each", including("a b", "b c", "c a"), "c", []string{"c", "a", "b"}},
		{"a circle, and one behind", including("a b c", "b a d", "c", "d"), "a", []string{"a", "b", "d", "c"}},
		{"a circle gone round: c is met within a again, ahead of d", including("a b c", "b e", "c", "d", "e a d"), "a", []string{"a", "b", "e", "c", "d"}},
		{"one that is not there", including("a x b", "b y"), "a", []string{"a", "b"}},
		{"none of theirs is there", including("a x"), "a", []string{"a"}},
		{"MaxNested", including("a b", "b c", "c d", "d e", "e"), "a", []string{"a", "b", "c", "d", "e"}},
		{"deeper", including("a b", "b c", "c d", "d e", "e f", "f"), "a", []string{"a", "b", "c", "d", "e"}},
		{"deeper, from the second on", including("a b", "b c", "c d", "d e", "e f", "f"), "b", []string{"b", "c", "d", "e", "f"}},
		{"too deep at first, later not", including("a b e", "b c", "c d", "d e", "e f", "f g", "g"), "a", []string{"a", "b", "c", "d", "e", "f", "g"}},
		{"too deep at first, later nearly", including("a b c", "b c", "c d", "d e", "e f", "f g", "g"), "a", []string{"a", "b", "c", "d", "e", "f"}},
		{"no sources", nil, "a", nil},
		{"a Name that is none of theirs", including("a", "b"), "c", nil},
		{"the empty Name", including("a"), "", nil},
		{"not right: falling", including("b a", "a"), "b", nil},
		{"not right: alike", including("a", "a"), "a", nil},
		{"not right: a Name", []impl.Source{{Name: "A"}}, "A", nil},
		{"not right: too long a Text", []impl.Source{{Name: "a"}, {Name: "b", Text: long(4001)}}, "a", nil},
		{"not right: 21", sourcesOf(21), "s000", nil},
		{"20", sourcesOf(20), "s019", []string{"s019"}},
		{"more than MaxList", sourcesOf(impl.MaxList + 1), "s000", nil},
		{"a Name of more than MaxBytes", including("a"), strings.Repeat("a", impl.MaxBytes+1), nil},
	}
	for _, c := range cases {
		same(t, c.what, impl.Closure(c.l, c.name), c.want)
	}
}

// TestClosureLines: which lines include something.
func TestClosureLines(t *testing.T) {
	includes := []string{
		".include b", "  .include b  ", "x:.include b", "x: .include b", " x:   .include b ; c", ".include b;", ".include b ; .include c",
		".include b\n", "\n.include b\n\n", "reti\nwrong\n.include b", "x: reti\nx: .include b", ".space 100\n.space 100\n.space 100\n.space 100\n.include b",
		".global zz\n.include b",
	}
	for _, text := range includes {
		l := []impl.Source{{Name: "a", Text: text}, {Name: "b"}, {Name: "c"}}
		same(t, text, impl.Closure(l, "a"), []string{"a", "b"})
	}
	others := []string{
		"", ";.include b", "; .include b", ".include  b", ".includeb", "include b", ".include", ".include ", ".include b c", ".include b, c", ".include b+1",
		".include B", ".Include b", ".include b.", ".include\tb", "\t.include b", ".include b\r", ".include b\x00", "X: .include b", "x : .include b",
		"x: y: .include b", ": .include b", "9: .include b", ".include ;b", ".inc\nlude b", ".include\nb", ".word .include b", "\".include b\"",
		"abcdefghijklmnopqrstu: .include b", ".include bbbbbbbbbbbbbbbbbbbbb", ".global b", "x: b", ".word b", "jmp b", "mov #b, &b",
	}
	for _, text := range others {
		l := []impl.Source{{Name: "a", Text: text}, {Name: "b"}, {Name: "c"}}
		same(t, text, impl.Closure(l, "a"), []string{"a"})
	}
}

// TestClosureNear: what is one byte beside an include is one or not as the document's words say.
func TestClosureNear(t *testing.T) {
	for _, text := range []string{".include b", "x: .include b ", ".include b;\n.include c"} {
		for _, n := range near(text) {
			l := []impl.Source{{Name: "a", Text: n}, {Name: "b"}, {Name: "c"}}
			same(t, fmt.Sprintf("%q", n), impl.Closure(l, "a"), closureMeant(l, "a"))
		}
	}
}

// TestClosureOfMany: sources that include each other at random, circles among them.
func TestClosureOfMany(t *testing.T) {
	d := dice{11}
	for range 4000 {
		many := 1 + d.below(8)
		l := sourcesOf(many)
		for i := range l {
			for range d.below(5) {
				l[i].Text += fmt.Sprintf(".include s%03d\n", d.below(many+1))
			}
		}
		for _, s := range l {
			same(t, fmt.Sprintf("%v", l), impl.Closure(l, s.Name), closureMeant(l, s.Name))
		}
	}
}

// TestClosureEnds: circles of as many includes as fit in would be gone through more than 10^10 times.
func TestClosureEnds(t *testing.T) {
	begin := time.Now()
	l := sourcesOf(20)
	var want []string
	for i := range l {
		for k := range 285 {
			l[i].Text += fmt.Sprintf(".include s%03d\n", (i+k)%20)
		}
		want = append(want, l[i].Name)
	}
	same(t, "right", impl.SourcesRight(l), true)
	got := impl.Closure(l, "s000")
	slices.Sort(got)
	same(t, "all", got, want)
	if took := time.Since(begin); took > 10*time.Second {
		t.Errorf("it took %v", took)
	}
}

func TestClosureNewMemory(t *testing.T) {
	l := including("aa bb", "bb")
	for i := range l {
		l[i].Name, l[i].Text = strings.Clone(l[i].Name), strings.Clone(l[i].Text)
	}
	name := strings.Clone("aa")
	kept := slices.Clone(l)
	for _, got := range impl.Closure(l, name) {
		for _, s := range l {
			if sharesMemory(got, s.Name) || sharesMemory(got, s.Text) || sharesMemory(got, name) {
				t.Errorf("%s lies in what was handed in", got)
			}
		}
	}
	same(t, "handed in", l, kept)
}
