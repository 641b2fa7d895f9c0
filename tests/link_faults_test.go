package tests

import (
	"fmt"
	"math"
	"slices"
	"testing"

	"loop.example/g00367/impl"
)

// refused: what is told with a code, and no Words beside it.
func refused(code int64, at int64, ref int64) impl.ImageOut {
	return impl.ImageOut{Code: code, At: at, Ref: ref}
}

// ones: an object of so many words 1.
func ones(many int) impl.Object {
	return impl.Object{Words: slices.Repeat([]int64{1}, many)}
}

func local(name string, at int64) impl.Sym  { return impl.Sym{Name: name, At: at} }
func global(name string, at int64) impl.Sym { return impl.Sym{Name: name, At: at, Global: true} }

// withSyms: an object of four words, and these Syms.
func withSyms(syms ...impl.Sym) impl.Object {
	o := ones(4)
	o.Syms = syms
	return o
}

// withRefs: an object of four words, and these Refs; it has no Syms.
func withRefs(refs ...impl.Ref) impl.Object {
	o := ones(4)
	o.Refs = refs
	return o
}

// isLinked asks the program, and the second linker, of at most MaxList objects.
func isLinked(t *testing.T, what string, l []impl.Object, base int64, want impl.ImageOut) {
	t.Helper()
	same(t, what, impl.Link(l, base), want)
	same(t, what+" by the other linker", linkedMeant(l, base), want)
}

func TestLinkHowMany(t *testing.T) {
	wrong := impl.Object{Words: []int64{-1}}
	same(t, "more than MaxList", impl.Link(slices.Repeat([]impl.Object{ones(1)}, impl.MaxList+1), 0), refused(impl.ErrSize, 0, 0))
	same(t, "more than MaxList, not right, at no base", impl.Link(slices.Repeat([]impl.Object{wrong}, impl.MaxList+1), 1), refused(impl.ErrSize, 0, 0))
	isLinked(t, "MaxList", slices.Repeat([]impl.Object{ones(0)}, impl.MaxList), 0, refused(impl.ErrForm, 0, 0))
	isLinked(t, "none", nil, 0, refused(impl.ErrForm, 0, 0))
	isLinked(t, "an empty list", []impl.Object{}, 0, refused(impl.ErrForm, 0, 0))
	for many := 1; many <= 12; many++ {
		l := slices.Repeat([]impl.Object{ones(2)}, many)
		want := impl.ImageOut{Words: slices.Repeat([]int64{1}, 2*many)}
		if many > 10 {
			want = refused(impl.ErrForm, 0, 0)
		}
		isLinked(t, fmt.Sprint(many), l, 0, want)
	}
	isLinked(t, "one without words", []impl.Object{{}}, 0, impl.ImageOut{})
	isLinked(t, "ten without words", make([]impl.Object, 10), 65534, impl.ImageOut{})
	isLinked(t, "eleven without words", make([]impl.Object, 11), 0, refused(impl.ErrForm, 0, 0))
}

// wrongObjects: each is not right in one thing.
func wrongObjects() []impl.Object {
	return []impl.Object{
		{Words: []int64{-1}},
		{Words: []int64{1, 65536}},
		ones(impl.MaxWords + 1),
		ones(impl.MaxList + 1),
		withSyms(local("b", 0), local("a", 0)),
		withSyms(local("a", 0), global("a", 1)),
		withSyms(local("a", 5)),
		withSyms(local("a", -1)),
		withSyms(local("A", 0)),
		withRefs(impl.Ref{At: 4, Name: "x"}),
		withRefs(impl.Ref{At: -1, Name: "x"}),
		withRefs(impl.Ref{At: 1, Name: "x"}, impl.Ref{At: 1, Name: "x"}),
		withRefs(impl.Ref{Name: ""}),
		withRefs(impl.Ref{Name: "x", Add: 32768}),
		withRefs(impl.Ref{Name: "x", Add: -32768, Jump: true}),
	}
}

func TestLinkNotRight(t *testing.T) {
	x := withSyms(global("x", 1))
	for _, wrong := range wrongObjects() {
		what := fmt.Sprintf("%+v", wrong)
		isLinked(t, what, []impl.Object{wrong}, 0, refused(impl.ErrForm, 0, 0))
		isLinked(t, what+" first", []impl.Object{wrong, x}, 0, refused(impl.ErrForm, 0, 0))
		isLinked(t, what+" behind", []impl.Object{x, wrong}, 0, refused(impl.ErrForm, 0, 0))
		isLinked(t, what+" tenth", append(slices.Repeat([]impl.Object{ones(1)}, 9), wrong), 0, refused(impl.ErrForm, 0, 0))
		isLinked(t, what+" with other faults", []impl.Object{x, x, withRefs(impl.Ref{Name: "y"}), ones(300), wrong}, 65534, refused(impl.ErrForm, 0, 0))
	}
}

func TestLinkBase(t *testing.T) {
	wrong := []int64{-2, -1, 1, 3, 4097, 65533, 65535, 65536, 65538, -65536, math.MinInt64, math.MaxInt64, math.MaxInt64 - 1, 1 << 32}
	for _, base := range wrong {
		what := fmt.Sprintf("base %d", base)
		isLinked(t, what, []impl.Object{ones(1)}, base, refused(impl.ErrForm, 0, 0))
		isLinked(t, what+" without words", []impl.Object{{}}, base, refused(impl.ErrForm, 0, 0))
		isLinked(t, what+" and full", []impl.Object{ones(300), ones(1)}, base, refused(impl.ErrForm, 0, 0))
		isLinked(t, what+" and a Global twice", []impl.Object{withSyms(global("x", 0)), withSyms(global("x", 0))}, base, refused(impl.ErrForm, 0, 0))
		isLinked(t, what+" and no Sym", []impl.Object{withRefs(impl.Ref{Name: "x"})}, base, refused(impl.ErrForm, 0, 0))
	}
	own := impl.Object{Words: []int64{7}, Syms: []impl.Sym{local("x", 0)}, Refs: []impl.Ref{{Name: "x"}}}
	for _, base := range []int64{0, 2, 4096, 32766, 32768, 65532, 65534} {
		isLinked(t, fmt.Sprintf("base %d", base), []impl.Object{own}, base, impl.ImageOut{Words: []int64{base}})
	}
}

func TestLinkFull(t *testing.T) {
	cases := []struct {
		what string
		many []int
		base int64
		fits bool
	}{
		{"MaxWords", []int{300}, 0, true},
		{"MaxWords of two", []int{299, 1}, 0, true},
		{"one more of two", []int{299, 2}, 0, false},
		{"one more, one without words between", []int{300, 0, 1}, 0, false},
		{"MaxWords, some without words", []int{0, 300, 0}, 0, true},
		{"MaxWords of ten", []int{30, 30, 30, 30, 30, 30, 30, 30, 30, 30}, 0, true},
		{"one more of ten", []int{30, 30, 30, 30, 30, 30, 30, 30, 30, 31}, 0, false},
		{"ten of MaxWords", []int{300, 300, 300, 300, 300, 300, 300, 300, 300, 300}, 0, false},
		{"MaxWords just below 65536", []int{300}, 64936, true},
		{"MaxWords, the last one behind it", []int{300}, 64938, false},
		{"MaxWords of two just below 65536", []int{100, 200}, 64936, true},
		{"MaxWords of two, the last one behind it", []int{100, 200}, 64938, false},
		{"a word at 65534", []int{1}, 65534, true},
		{"a word behind it", []int{2}, 65534, false},
		{"a word of another object behind it", []int{1, 0, 1}, 65534, false},
		{"none at 65534", []int{0, 0}, 65534, true},
		{"two at 65532", []int{1, 1}, 65532, true},
	}
	for _, c := range cases {
		var l []impl.Object
		all := 0
		for _, many := range c.many {
			l = append(l, ones(many))
			all += many
		}
		want := impl.ImageOut{Words: slices.Repeat([]int64{1}, all)}
		if all == 0 {
			want.Words = nil
		}
		if !c.fits {
			want = refused(impl.ErrFull, 0, 0)
		}
		isLinked(t, c.what, l, c.base, want)
	}
	x := withSyms(global("x", 0))
	isLinked(t, "and a Global twice", []impl.Object{x, x, ones(300)}, 0, refused(impl.ErrFull, 0, 0))
	isLinked(t, "and no Sym", []impl.Object{withRefs(impl.Ref{Name: "y"}), ones(297)}, 0, refused(impl.ErrFull, 0, 0))
	isLinked(t, "and no Sym, at the end", []impl.Object{withRefs(impl.Ref{Name: "y"})}, 65530, refused(impl.ErrFull, 0, 0))
}

func TestLinkGlobalTwice(t *testing.T) {
	cases := []struct {
		what string
		l    []impl.Object
		want impl.ImageOut
	}{
		{"in the second", []impl.Object{withSyms(global("x", 0)), withSyms(global("x", 3))}, refused(impl.ErrThere, 1, 0)},
		{"in the third", []impl.Object{withSyms(global("x", 0)), {}, withSyms(global("x", 0))}, refused(impl.ErrThere, 2, 0)},
		{"in three", []impl.Object{{}, withSyms(global("x", 0)), withSyms(global("x", 0)), withSyms(global("x", 0))}, refused(impl.ErrThere, 2, 0)},
		{"behind Syms that are not Global", []impl.Object{withSyms(global("x", 0)), withSyms(local("a", 0), local("b", 0), global("x", 0))}, refused(impl.ErrThere, 1, 2)},
		{"behind another Global one", []impl.Object{withSyms(global("x", 0)), withSyms(global("a", 0), global("x", 0))}, refused(impl.ErrThere, 1, 1)},
		{"two in one object", []impl.Object{withSyms(global("x", 0), global("y", 0)), withSyms(global("x", 0), global("y", 0))}, refused(impl.ErrThere, 1, 0)},
		{"two in two objects, the later Name first", []impl.Object{withSyms(global("x", 0), global("y", 0)), withSyms(global("y", 0)), withSyms(global("x", 0))}, refused(impl.ErrThere, 1, 0)},
		{"behind one that is in one object alone", []impl.Object{withSyms(local("x", 0)), withSyms(global("x", 0)), withSyms(global("x", 0))}, refused(impl.ErrThere, 2, 0)},
		{"ahead of a Ref without a Sym", []impl.Object{withRefs(impl.Ref{Name: "z"}), withSyms(global("x", 0)), withSyms(global("x", 0))}, refused(impl.ErrThere, 2, 0)},
		{"in the tenth", append(slices.Repeat([]impl.Object{{}}, 8), withSyms(global("x", 0)), withSyms(local("w", 0), global("x", 0))), refused(impl.ErrThere, 9, 1)},
	}
	for _, c := range cases {
		isLinked(t, c.what, c.l, 0, c.want)
	}
	far := impl.Object{Words: []int64{1}, Syms: []impl.Sym{global("x", 0)}, Refs: []impl.Ref{{Name: "x", Add: 1, Jump: true}}}
	isLinked(t, "ahead of a jump that is odd", []impl.Object{far, withSyms(global("x", 0))}, 0, refused(impl.ErrThere, 1, 0))
	two := impl.ImageOut{Words: slices.Repeat([]int64{1}, 8)}
	isLinked(t, "Global in one alone, first", []impl.Object{withSyms(global("x", 0)), withSyms(local("x", 3))}, 0, two)
	isLinked(t, "Global in one alone, behind", []impl.Object{withSyms(local("x", 0)), withSyms(global("x", 3))}, 0, two)
	isLinked(t, "Global in none", []impl.Object{withSyms(local("x", 0)), withSyms(local("x", 3))}, 0, two)
	isLinked(t, "other Names", []impl.Object{withSyms(global("x", 0)), withSyms(global("x_", 3))}, 0, two)
}

func TestLinkRefsRefused(t *testing.T) {
	a := withSyms(local("h", 1), global("x", 0))
	away := func(at int64) impl.Ref { return impl.Ref{At: at, Name: "x", Add: 4097, Jump: true} }
	none := func(at int64) impl.Ref { return impl.Ref{At: at, Name: "y"} }
	good := func(at int64) impl.Ref { return impl.Ref{At: at, Name: "x"} }
	cases := []struct {
		what string
		l    []impl.Object
		want impl.ImageOut
	}{
		{"no Sym", []impl.Object{withRefs(none(3))}, refused(impl.ErrNone, 0, 0)},
		{"no Sym of a jump", []impl.Object{withRefs(impl.Ref{Name: "y", Jump: true})}, refused(impl.ErrNone, 0, 0)},
		{"the third Ref", []impl.Object{a, withRefs(good(0), good(2), none(3))}, refused(impl.ErrNone, 1, 2)},
		{"a Sym of another that is not Global", []impl.Object{a, withRefs(impl.Ref{Name: "h"})}, refused(impl.ErrNone, 1, 0)},
		{"a Sym that begins so", []impl.Object{a, withRefs(impl.Ref{Name: "x_"})}, refused(impl.ErrNone, 1, 0)},
		{"a jump too far", []impl.Object{a, withRefs(good(1), away(2))}, refused(impl.ErrRange, 1, 1)},
		{"no Sym ahead of a jump too far", []impl.Object{a, withRefs(none(1), away(2))}, refused(impl.ErrNone, 1, 0)},
		{"a jump too far ahead of no Sym", []impl.Object{a, withRefs(away(1), none(2))}, refused(impl.ErrRange, 1, 0)},
		{"no Sym in an object ahead", []impl.Object{withRefs(good(0), none(3)), a, withRefs(away(0))}, refused(impl.ErrNone, 0, 1)},
		{"a jump too far in an object ahead", []impl.Object{withRefs(good(0), good(1), away(3)), a, withRefs(none(0))}, refused(impl.ErrRange, 0, 2)},
		{"in the tenth", append(slices.Repeat([]impl.Object{{}}, 8), a, withRefs(good(0), none(1))), refused(impl.ErrNone, 9, 1)},
		{"the first of two", []impl.Object{a, withRefs(none(0)), withRefs(none(0))}, refused(impl.ErrNone, 1, 0)},
	}
	for _, c := range cases {
		isLinked(t, c.what, c.l, 4096, c.want)
	}
}
