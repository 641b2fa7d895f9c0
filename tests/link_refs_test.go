package tests

import (
	"fmt"
	"slices"
	"testing"

	"loop.example/g00367/impl"
)

func TestLinkTargets(t *testing.T) {
	x := func(at int64, isGlobal bool) impl.Object {
		return impl.Object{Words: []int64{11, 12}, Syms: []impl.Sym{{Name: "x", At: at, Global: isGlobal}}}
	}
	ref := func(add int64, syms ...impl.Sym) impl.Object {
		return impl.Object{Words: []int64{21, 22}, Syms: syms, Refs: []impl.Ref{{At: 1, Name: "x", Add: add}}}
	}
	cases := []struct {
		what string
		l    []impl.Object
		base int64
		want []int64
	}{
		{"of its own object", []impl.Object{ref(0, local("x", 1))}, 4096, []int64{21, 4098}},
		{"of its own object, Global", []impl.Object{ref(0, global("x", 1))}, 4096, []int64{21, 4098}},
		{"of one ahead", []impl.Object{x(1, true), ref(0)}, 4096, []int64{11, 12, 21, 4098}},
		{"of one behind", []impl.Object{ref(0), x(1, true)}, 4096, []int64{21, 4102, 11, 12}},
		{"behind the last word of one ahead", []impl.Object{x(2, true), ref(0)}, 4096, []int64{11, 12, 21, 4100}},
		{"behind the last word of all", []impl.Object{ref(0), x(2, true)}, 4096, []int64{21, 4104, 11, 12}},
		{"of its own object ahead of a Global one", []impl.Object{x(0, true), ref(0, local("x", 0))}, 4096, []int64{11, 12, 21, 4100}},
		{"of its own object ahead of a Global one behind", []impl.Object{ref(0, local("x", 2)), x(0, true)}, 4096, []int64{21, 4100, 11, 12}},
		{"Global, not one that is not", []impl.Object{x(0, false), ref(0), x(1, true)}, 4096, []int64{11, 12, 21, 4106, 11, 12}},
		{"Global, not one that is not, behind", []impl.Object{x(1, true), ref(0), x(0, false)}, 4096, []int64{11, 12, 21, 4098, 11, 12}},
		{"of one without words", []impl.Object{{Syms: []impl.Sym{global("x", 0)}}, ref(0)}, 4096, []int64{21, 4096}},
		{"behind one without words", []impl.Object{ref(0), {}, x(0, true)}, 4096, []int64{21, 4100, 11, 12}},
		{"and more", []impl.Object{x(0, true), ref(5)}, 4096, []int64{11, 12, 21, 4101}},
		{"and less", []impl.Object{x(0, true), ref(-4095)}, 4096, []int64{11, 12, 21, 1}},
		{"0", []impl.Object{x(0, true), ref(-4096)}, 4096, []int64{11, 12, 21, 0}},
		{"below 0", []impl.Object{x(0, true), ref(-4097)}, 4096, []int64{11, 12, 21, 65535}},
		{"far below 0", []impl.Object{x(0, true), ref(-32767)}, 0, []int64{11, 12, 21, 32769}},
		{"65535", []impl.Object{x(0, true), ref(32767)}, 32768, []int64{11, 12, 21, 65535}},
		{"above 65535", []impl.Object{x(0, true), ref(32767)}, 32770, []int64{11, 12, 21, 1}},
		{"far above 65535", []impl.Object{x(0, true), ref(32767)}, 65528, []int64{11, 12, 21, 32759}},
		{"behind the last word below 65536", []impl.Object{x(0, false), ref(0, local("x", 2))}, 65528, []int64{11, 12, 21, 0}},
		{"behind the last word below 65536, and less", []impl.Object{x(0, false), ref(-1, local("x", 2))}, 65528, []int64{11, 12, 21, 65535}},
	}
	for _, c := range cases {
		isLinked(t, c.what, c.l, c.base, impl.ImageOut{Words: c.want})
	}
}

// jumpFrom: an object of MaxWords words, the one at that place a jump to x and add, and x at that place of sym.
func jumpFrom(at int64, word int64, sym int64, add int64) impl.Object {
	o := ones(impl.MaxWords)
	o.Words[at] = word
	o.Syms = []impl.Sym{local("x", sym)}
	o.Refs = []impl.Ref{{At: at, Name: "x", Add: add, Jump: true}}
	return o
}

func TestLinkJumps(t *testing.T) {
	cases := []struct {
		what string
		at   int64
		word int64
		sym  int64
		add  int64
		base int64
		want int64
	}{
		{"to the next word", 3, 0x3c00, 4, 0, 4096, 0x3c00},
		{"to itself", 3, 0x3c00, 3, 0, 4096, 0x3fff},
		{"to the word behind the next one", 3, 0x3c00, 5, 0, 4096, 0x3c01},
		{"to the end", 0, 0x2000, 300, 0, 4096, 0x2000 + 299},
		{"back to the begin", 299, 0x2000, 0, 0, 4096, 0x2000 + 1024 - 300},
		{"511", 0, 0x3c00, 300, 424, 4096, 0x3dff},
		{"-512", 299, 0x3c00, 0, -424, 4096, 0x3e00},
		{"0 as target", 0, 0x3c00, 0, -4, 4, 0x3ffd},
		{"to the last word below 65536", 0, 0x3c00, 299, 0, 64936, 0x3c00 + 298},
		{"a word that was more already", 3, 0x3c05, 5, 0, 4096, 0x3c06},
		{"a word that was more already, back", 3, 0x3c05, 1, 0, 4096, 0x4002},
		{"a word 0", 3, 0, 5, 0, 4096, 1},
		{"a word 0, back", 3, 0, 1, 0, 4096, 1021},
		{"the last word", 3, 65535, 4, 0, 4096, 65535},
		{"a word that has no room", 3, 65535, 5, 0, 4096, 0},
		{"a word that has no room, back", 3, 65535, 3, 0, 4096, 1022},
	}
	for _, c := range cases {
		o := jumpFrom(c.at, c.word, c.sym, c.add)
		want := slices.Clone(o.Words)
		want[c.at] = c.want
		isLinked(t, c.what, []impl.Object{o}, c.base, impl.ImageOut{Words: want})
	}
}

func TestLinkJumpsRefused(t *testing.T) {
	cases := []struct {
		what string
		at   int64
		sym  int64
		add  int64
		base int64
	}{
		{"512", 0, 300, 426, 4096},
		{"-513", 299, 0, -426, 4096},
		{"half more than 511", 0, 300, 425, 4096},
		{"half less than -512", 299, 0, -425, 4096},
		{"odd", 3, 5, 1, 4096},
		{"odd, back", 3, 1, -1, 4096},
		{"odd, half above 0", 3, 4, 1, 4096},
		{"odd, half below 0", 3, 4, -1, 4096},
		{"far", 0, 300, 32767, 4096},
		{"far, even", 0, 300, 32766, 4096},
		{"far back", 299, 0, -32766, 40000},
		{"below 0, which is above", 0, 0, -2, 0},
		{"above 65535, which is below", 299, 300, 0, 64936},
	}
	for _, c := range cases {
		o := jumpFrom(c.at, 0x3c00, c.sym, c.add)
		isLinked(t, c.what, []impl.Object{o}, c.base, refused(impl.ErrRange, 0, 0))
	}
}

// TestLinkJumpsAll: each way from -520 to 520 words, and those half between.
func TestLinkJumpsAll(t *testing.T) {
	for way := int64(-1040); way <= 1040; way++ {
		o := impl.Object{Words: []int64{9, 0x3800, 9}, Syms: []impl.Sym{local("x", 2)}, Refs: []impl.Ref{{At: 1, Name: "x", Add: way, Jump: true}}}
		want := impl.ImageOut{Words: []int64{7, 7, 9, (0x3800 + (way/2+1024)%1024), 9}}
		if way%2 != 0 || way < -1024 || way > 1022 {
			want = refused(impl.ErrRange, 1, 0)
		}
		isLinked(t, fmt.Sprint(way), []impl.Object{{Words: []int64{7, 7}}, o}, 2000, want)
	}
}

func TestLinkJumpIntoAnother(t *testing.T) {
	a := impl.Object{Words: []int64{0x3c00, 0x2400}, Syms: []impl.Sym{global("a", 0)}, Refs: []impl.Ref{{At: 1, Name: "b", Jump: true}}}
	b := impl.Object{Words: []int64{5, 0x2000}, Syms: []impl.Sym{global("b", 1)}, Refs: []impl.Ref{{Name: "b", Add: -2}, {At: 1, Name: "a", Add: 2, Jump: true}}}
	isLinked(t, "there and back", []impl.Object{a, b}, 512, impl.ImageOut{Words: []int64{0x3c00, 0x2401, 516, 0x23fd}})
	isLinked(t, "the other way round", []impl.Object{b, a}, 512, impl.ImageOut{Words: []int64{512, 0x2001, 0x3c00, 0x27fd}})
}

// TestLinkManySyms: there may be more Syms and Refs in an object than there are items in a list that is handed in.
func TestLinkManySyms(t *testing.T) {
	o := ones(300)
	for i := range 5000 {
		o.Syms = append(o.Syms, impl.Sym{Name: fmt.Sprintf("s%05d", i), At: int64(i % 301), Global: i%2 == 0})
	}
	want := slices.Clone(o.Words)
	for i := range 300 {
		o.Refs = append(o.Refs, impl.Ref{At: int64(i), Name: o.Syms[16*i].Name})
		want[i] = 1000 + 2*int64(16*i%301)
	}
	isLinked(t, "many", []impl.Object{o}, 1000, impl.ImageOut{Words: want})
	twice := impl.Object{Syms: []impl.Sym{global("s04997", 0), global("s04998", 0)}}
	isLinked(t, "many, and one twice", []impl.Object{o, twice}, 1000, refused(impl.ErrThere, 1, 1))
	isLinked(t, "many behind, and one twice", []impl.Object{twice, o}, 1000, refused(impl.ErrThere, 1, 4998))
}

func TestLinkNewMemory(t *testing.T) {
	pair := func() []impl.Object {
		a := impl.Object{Words: []int64{1, 2, 0x3c00}, Syms: []impl.Sym{global("a", 0)}, Refs: []impl.Ref{{At: 1, Name: "b"}, {At: 2, Name: "b", Jump: true}}}
		b := impl.Object{Words: append(make([]int64, 0, 50), 3, 4), Syms: []impl.Sym{global("b", 0)}, Refs: []impl.Ref{{Name: "a", Add: 1}}}
		return []impl.Object{a, b}
	}
	l := pair()
	want := impl.ImageOut{Words: []int64{1, 70, 0x3c00, 65, 4}}
	first := impl.Link(l, 64)
	isLinked(t, "first", l, 64, want)
	same(t, "handed in", l, pair())
	for i := range first.Words {
		first.Words[i] = 9
	}
	same(t, "handed in, behind what is done to an answer", l, pair())
	same(t, "between", impl.Link(l, 1), refused(impl.ErrForm, 0, 0))
	same(t, "again", impl.Link(l, 64), want)
	plain := impl.Object{Words: make([]int64, 2, 9)}
	impl.Link([]impl.Object{plain}, 0).Words[0] = 5
	same(t, "one object without Refs", plain.Words, []int64{0, 0})
	refs := []impl.Object{{Words: []int64{1, 2}, Syms: []impl.Sym{local("a", 1)}, Refs: []impl.Ref{{Name: "a"}, {At: 1, Name: "c"}}}}
	same(t, "refused behind a Ref that was laid", impl.Link(refs, 8), refused(impl.ErrNone, 0, 1))
	same(t, "handed in, refused", refs[0].Words, []int64{1, 2})
}
