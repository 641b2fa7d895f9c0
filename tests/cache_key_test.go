package tests

import (
	"fmt"
	"slices"
	"strings"
	"testing"

	"loop.example/g00367/impl"
)

func TestDigestBytes(t *testing.T) {
	cases := []struct {
		text string
		want string
	}{
		{"", "\xcb\xf2\x9c\xe4\x84\x22\x23\x25\xaf\x63\xbc\x4c\x86\x01\xb6\x2c"},
		{"a", "\xaf\x63\xdc\x4c\x86\x01\xec\x8c\x08\x9b\xe3\x07\xb5\x44\xf3\x97"},
		{"foobar", "\x85\x94\x41\x71\xf7\x39\x67\xe8\x34\x53\x1d\xa7\x16\x8b\x90\xeb"},
		{"\x01", "\xaf\x63\xbc\x4c\x86\x01\xb6\x2c\x08\x2f\x23\x07\xb4\xe8\x8e\x77"},
	}
	for _, c := range cases {
		same(t, c.text, impl.Digest(c.text), c.want)
		same(t, c.text+": behind it a byte 1", impl.Digest(c.text)[8:], impl.Digest(c.text + "\x01")[:8])
	}
}

func TestDigestOfMany(t *testing.T) {
	for b := range 256 {
		text := string([]byte{byte(b)})
		same(t, fmt.Sprintf("%q", text), impl.Digest(text), digestMeant(text))
	}
	d := dice{8}
	for range 500 {
		text := d.text(d.below(300))
		same(t, fmt.Sprintf("%q", text), impl.Digest(text), digestMeant(text))
	}
}

func TestDigestLimits(t *testing.T) {
	for _, many := range []int{impl.MaxBytes - 1, impl.MaxBytes} {
		same(t, "at the limit", impl.Digest(long(many)), digestMeant(long(many)))
	}
	same(t, "over it", impl.Digest(long(impl.MaxBytes+1)), "")
	same(t, "far over it", impl.Digest(long(3*impl.MaxBytes)), "")
}

// keyed: the sources a (b twice, with c within it), and d by itself.
func keyed() []impl.Source {
	return []impl.Source{
		{Name: "a", Text: ".include b\nx: reti\n.include b\n"},
		{Name: "b", Text: ".word 1\n.include c\n"},
		{Name: "c", Text: ".word 2"},
		{Name: "d", Text: "reti"},
	}
}

// digestOfRow: what a key is of, if these sources are met in this order.
func digestOfRow(sources ...impl.Source) string {
	row := ""
	for _, s := range sources {
		row += impl.PutText(s.Name) + impl.PutText(impl.Digest(s.Text))
	}
	return impl.Digest(row)
}

func TestKeyOf(t *testing.T) {
	l := keyed()
	same(t, "one that includes one twice", impl.KeyOf(l, "a"), digestOfRow(l[0], l[1], l[2]))
	same(t, "one that includes one", impl.KeyOf(l, "b"), digestOfRow(l[1], l[2]))
	same(t, "one that includes none", impl.KeyOf(l, "c"), digestOfRow(l[2]))
	same(t, "another", impl.KeyOf(l, "d"), digestOfRow(l[3]))
	same(t, "by its bytes", impl.KeyOf(l, "d"), digestMeant("\x02d\x20"+digestMeant("reti")))
	same(t, "in the order in which they are met", impl.KeyOf(including("a d b", "b c", "c", "d"), "a"),
		digestOfRow(impl.Source{Name: "a", Text: ".include d\n.include b\n"}, impl.Source{Name: "d"}, impl.Source{Name: "b", Text: ".include c\n"}, impl.Source{Name: "c"}))
	same(t, "one that includes itself", impl.KeyOf(including("a a"), "a"), digestOfRow(impl.Source{Name: "a", Text: ".include a\n"}))
	same(t, "one that includes what is not there", impl.KeyOf(including("a x"), "a"), digestOfRow(impl.Source{Name: "a", Text: ".include x\n"}))
	same(t, "one with wrong lines", impl.KeyOf([]impl.Source{{Name: "a", Text: "wrong\n"}}, "a"), digestOfRow(impl.Source{Name: "a", Text: "wrong\n"}))
	same(t, "an empty Text", impl.KeyOf([]impl.Source{{Name: "a"}}, "a"), digestOfRow(impl.Source{Name: "a"}))
}

// TestKeyOfChanged: which keys are others, if one source is.
func TestKeyOfChanged(t *testing.T) {
	others := map[string]string{"a": "a", "b": "ab", "c": "abc", "d": "d"}
	for i, s := range keyed() {
		for _, text := range []string{s.Text + " ", ";" + s.Text, s.Text + "\n;", strings.ToUpper(s.Text[:1]) + s.Text[1:] + "\n;\x00"} {
			m := keyed()
			m[i].Text = text
			for _, of := range m {
				changed := impl.KeyOf(keyed(), of.Name) != impl.KeyOf(m, of.Name)
				same(t, fmt.Sprintf("%s of %q", of.Name, m), changed, strings.Contains(others[s.Name], of.Name))
			}
		}
	}
	named := []impl.Source{{Name: "a", Text: "reti"}, {Name: "b", Text: "reti"}}
	same(t, "two of the same Text", impl.KeyOf(named, "a") == impl.KeyOf(named, "b"), false)
}

// TestKeyOfEachByte: of what is included each byte counts.
func TestKeyOfEachByte(t *testing.T) {
	l := keyed()
	key := impl.KeyOf(l, "a")
	text := l[2].Text
	for at := range text {
		for turn := 1; turn < 256; turn++ {
			l[2].Text = text[:at] + string([]byte{text[at] ^ byte(turn)}) + text[at+1:]
			if impl.KeyOf(l, "a") == key {
				t.Errorf("byte %d turned by %d: the same key", at, turn)
			}
		}
	}
}

func TestKeyOfDeep(t *testing.T) {
	l := including("a b", "b c", "c d", "d e", "e f", "f")
	m := slices.Clone(l)
	m[5].Text = "reti"
	same(t, "deeper than MaxNested", impl.KeyOf(l, "a"), impl.KeyOf(m, "a"))
	same(t, "at MaxNested", impl.KeyOf(l, "b") == impl.KeyOf(m, "b"), false)
}

func TestKeyOfNone(t *testing.T) {
	l := keyed()
	cases := []struct {
		what string
		l    []impl.Source
		name string
	}{
		{"no such Name", l, "e"},
		{"a Name that begins so", l, "a_"},
		{"the empty Name", l, ""},
		{"a Name that is none", l, "A"},
		{"a Name of MaxBytes", l, strings.Repeat("a", impl.MaxBytes)},
		{"a Name of more than MaxBytes", l, strings.Repeat("a", impl.MaxBytes+1)},
		{"no sources", nil, "a"},
		{"an empty list", []impl.Source{}, "a"},
		{"falling", []impl.Source{{Name: "b"}, {Name: "a"}}, "a"},
		{"alike", []impl.Source{{Name: "a"}, {Name: "a"}}, "a"},
		{"not a name", []impl.Source{{Name: "A"}}, "A"},
		{"a Text of 4001 bytes", []impl.Source{{Name: "a", Text: long(4001)}}, "a"},
		{"a Text of 4001 bytes that is not included", []impl.Source{{Name: "a"}, {Name: "b", Text: long(4001)}}, "a"},
		{"21", sourcesOf(21), "s000"},
		{"MaxList", sourcesOf(impl.MaxList), "s000"},
		{"more than MaxList", sourcesOf(impl.MaxList + 1), "s000"},
	}
	for _, c := range cases {
		same(t, c.what, impl.KeyOf(c.l, c.name), "")
	}
	same(t, "20", impl.KeyOf(sourcesOf(20), "s019"), digestOfRow(impl.Source{Name: "s019"}))
	same(t, "a Text of 4000 bytes", impl.KeyOf([]impl.Source{{Name: "a", Text: long(4000)}}, "a"), digestOfRow(impl.Source{Name: "a", Text: long(4000)}))
}

// TestKeyOfMost: as many sources as there may be, with Names as long as they may be, are all of the key.
func TestKeyOfMost(t *testing.T) {
	var l []impl.Source
	for i := range 20 {
		l = append(l, impl.Source{Name: fmt.Sprintf("source___________%03d", i), Text: long(4000 - i)})
	}
	l[0].Text = ""
	for _, s := range l[1:] {
		l[0].Text += ".include " + s.Name + "\n"
	}
	same(t, "20", impl.KeyOf(l, l[0].Name), digestOfRow(l...))
}

func TestKeyOfRandom(t *testing.T) {
	d := dice{88}
	for range 1500 {
		many := 1 + d.below(8)
		l := sourcesOf(many)
		for i := range l {
			for range d.below(4) {
				l[i].Text += fmt.Sprintf(".include s%03d\n", d.below(many+1))
			}
		}
		kept := slices.Clone(l)
		for _, s := range l {
			same(t, fmt.Sprintf("%s of %v", s.Name, l), impl.KeyOf(l, s.Name), keyMeant(l, s.Name))
		}
		same(t, "handed in", l, kept)
	}
}
