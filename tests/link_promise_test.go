package tests

import (
	"fmt"
	"slices"
	"strings"
	"testing"

	"loop.example/g00367/impl"
)

// keepsPromise6: objects that are linked at two bases have the words that stand one behind the other in them, but those
// of Refs; those of jumps are alike at both, the others are more by how far the bases are apart.
func keepsPromise6(t *testing.T, l []impl.Object, first, second int64) {
	t.Helper()
	one, two := impl.Link(l, first), impl.Link(l, second)
	what := fmt.Sprintf("%+v at %d and %d", l, first, second)
	if one.Code != impl.OK || two.Code != impl.OK {
		t.Fatalf("%s: got %+v and %+v", what, one, two)
	}
	var rows, atOne, atTwo []int64
	for _, o := range l {
		from := int64(len(rows))
		rows = append(rows, o.Words...)
		atOne, atTwo = append(atOne, o.Words...), append(atTwo, o.Words...)
		for _, r := range o.Refs {
			n := one.Words[from+r.At]
			atOne[from+r.At], atTwo[from+r.At] = n, n
			if !r.Jump {
				atTwo[from+r.At] = (n + second - first + 65536) % 65536
			}
		}
	}
	same(t, what+": how many", []int{len(one.Words), len(two.Words)}, []int{len(rows), len(rows)})
	if len(rows) > 0 {
		same(t, what+": first", one.Words, atOne)
		same(t, what+": second", two.Words, atTwo)
	}
}

// promisedObjects: those of a program by hand.
func promisedObjects(t *testing.T) []impl.Object {
	t.Helper()
	sources := []impl.Source{
		{Name: "data", Text: ".global table\ntable: .word 1, start, table+4, own-3\nown:\n.space 3"},
		{Name: "main", Text: ".global start\nstart: mov #table, r5\nown: cmp @r5+, &table+2\njne own\njmp far\ncall #far+0x7000"},
		{Name: "part", Text: ".global far\nadd own(r4), r6\nfar: jmp start+2\nown: reti\n.word own, own-32767, own+32767"},
	}
	var l []impl.Object
	for _, name := range []string{"main", "data", "part"} {
		out := impl.Assemble(sources, name)
		if out.Code != impl.OK {
			t.Fatalf("%s: %+v", name, out)
		}
		l = append(l, out.Object)
	}
	return l
}

func TestPromise6Hand(t *testing.T) {
	l := promisedObjects(t)
	isLinked(t, "at 4096", l, 4096, impl.ImageOut{Words: []int64{
		0x4035, 4112, 0x95b2, 4114, 0x23fd, 0x3c0b, 0x12b0, 4130 + 0x7000,
		1, 4096, 4116, 4117, 0, 0, 0,
		0x5416, 4132, 0x3fef, 0x1300, 4132, 4132 - 32767 + 65536, 4132 + 32767,
	}})
	isLinked(t, "at 40000", l, 40000, impl.ImageOut{Words: []int64{
		0x4035, 40016, 0x95b2, 40018, 0x23fd, 0x3c0b, 0x12b0, 40034 + 0x7000 - 65536,
		1, 40000, 40020, 40021, 0, 0, 0,
		0x5416, 40036, 0x3fef, 0x1300, 40036, 40036 - 32767, 40036 + 32767 - 65536,
	}})
	alone := []impl.Object{{
		Words: []int64{0x40b2, 0, 0, 0x3c00, 9}, Syms: []impl.Sym{local("a", 0), global("b", 5)},
		Refs: []impl.Ref{{At: 1, Name: "a", Add: -3}, {At: 2, Name: "b", Add: 32767}, {At: 3, Name: "a", Jump: true}},
	}}
	isLinked(t, "one", alone, 2, impl.ImageOut{Words: []int64{0x40b2, 65535, 32779, 0x3ffc, 9}})
	bases := []int64{0, 2, 4096, 32766, 32768, 40000, 65536 - 2*22}
	for _, first := range bases {
		for _, second := range bases {
			keepsPromise6(t, l, first, second)
			keepsPromise6(t, alone, first, second)
		}
	}
}

// TestPromise6Plain: objects without Refs, one and several, lie one behind the other at any base.
func TestPromise6Plain(t *testing.T) {
	d := dice{66}
	for many := 1; many <= 10; many++ {
		for _, each := range []int{0, 1, 7, 30} {
			var l []impl.Object
			for range many {
				l = append(l, d.object(each, []string{"a"}))
				l[len(l)-1].Syms, l[len(l)-1].Refs = nil, nil
			}
			keepsPromise6(t, l, 0, 65536-2*300)
			keepsPromise6(t, l, 4096, 2)
		}
	}
}

// linkable: objects at random that may be linked at any base at which they have room, if their jumps do not wrap.
func (d *dice) linkable() []impl.Object {
	names := []string{"a", "b", "b_1", "c", "dd", "e9"}
	homes := map[string]int{}
	many := 1 + d.below(10)
	for _, name := range names {
		homes[name] = d.below(many)
	}
	var l []impl.Object
	for n := range many {
		o := d.object(d.below(30), names)
		o.Syms = slices.DeleteFunc(o.Syms, func(s impl.Sym) bool { return homes[s.Name] == n })
		for i := range o.Syms {
			o.Syms[i].Global = false
		}
		for _, name := range names {
			if homes[name] == n {
				o.Syms = append(o.Syms, global(name, int64(d.below(len(o.Words)+1))))
			}
		}
		slices.SortFunc(o.Syms, func(x, y impl.Sym) int { return strings.Compare(x.Name, y.Name) })
		for i := range o.Refs {
			if o.Refs[i].Jump {
				o.Refs[i].Add = int64(2*d.below(40) - 40)
			}
		}
		l = append(l, o)
	}
	return l
}

func TestPromise6Random(t *testing.T) {
	d := dice{606}
	jumps, others, away := 0, 0, 0
	for range 6000 {
		l := d.linkable()
		for n, o := range l {
			for _, r := range o.Refs {
				if r.Jump {
					jumps++
				} else {
					others++
				}
				if !slices.ContainsFunc(l[n].Syms, func(s impl.Sym) bool { return s.Name == r.Name }) {
					away++
				}
			}
		}
		// Targets of jumps lie at most 40 bytes ahead of the first word or behind the last one.
		keepsPromise6(t, l, int64(40+2*d.below(32400)), int64(40+2*d.below(32400)))
	}
	if jumps < 10000 || others < 10000 || away < 10000 {
		t.Errorf("too little was asked: %d jumps, %d others, %d of Syms of another object", jumps, others, away)
	}
}

// TestPromise6Assembled: what is assembled of sources at random.
func TestPromise6Assembled(t *testing.T) {
	d := dice{16}
	linked := 0
	for range 3000 {
		out := impl.Assemble(d.rightSources(), "s000")
		if out.Code != impl.OK {
			t.Fatalf("%+v", out)
		}
		o := out.Object
		for _, name := range []string{"zero", "r4", "mov"} {
			// These Names are used, but no label.
			o.Syms = append(o.Syms, local(name, 0))
		}
		slices.SortFunc(o.Syms, func(x, y impl.Sym) int { return strings.Compare(x.Name, y.Name) })
		l := []impl.Object{{Words: []int64{1, 2}}, o}
		base := int64(100 + 2*d.below(32300))
		if impl.Link(l, base).Code == impl.OK {
			keepsPromise6(t, l, base, int64(100+2*d.below(32300)))
			linked++
		}
	}
	if linked < 1000 {
		t.Errorf("just %d were linked", linked)
	}
}
