package tests

import (
	"fmt"
	"math"
	"slices"
	"strings"
	"testing"

	"loop.example/g00367/impl"
)

// sourcesOf: so many sources whose Names rise.
func sourcesOf(many int) []impl.Source {
	var out []impl.Source
	for i := range many {
		out = append(out, impl.Source{Name: fmt.Sprintf("s%03d", i)})
	}
	return out
}

func TestSourcesRight(t *testing.T) {
	a, b := impl.Source{Name: "a"}, impl.Source{Name: "b"}
	cases := []struct {
		what string
		l    []impl.Source
		want bool
	}{
		{"none", nil, true},
		{"an empty list", []impl.Source{}, true},
		{"one", []impl.Source{a}, true},
		{"two", []impl.Source{a, b}, true},
		{"falling", []impl.Source{b, a}, false},
		{"alike", []impl.Source{a, a}, false},
		{"alike, their Texts not", []impl.Source{a, {Name: "a", Text: "reti"}}, false},
		{"falling at the end", []impl.Source{a, {Name: "c"}, b}, false},
		{"the shorter one first", []impl.Source{a, {Name: "a0"}, {Name: "a_"}, {Name: "aa"}, b}, true},
		{"the shorter one behind", []impl.Source{{Name: "aa"}, a}, false},
		{"digits, a stroke below, letters", []impl.Source{{Name: "a_"}, {Name: "a0"}}, false},
		{"a Text of 4000 bytes", []impl.Source{{Name: "a", Text: long(4000)}}, true},
		{"a Text of 4001 bytes", []impl.Source{{Name: "a", Text: long(4001)}}, false},
		{"a Text of 4001 bytes at the end", []impl.Source{a, {Name: "b", Text: long(4001)}}, false},
		{"Texts of more than MaxBytes together", []impl.Source{{Name: "a", Text: long(4000)}, {Name: "b", Text: long(4000)}, {Name: "c", Text: long(4000)}}, true},
		{"a Text that is no source's", []impl.Source{{Name: "a", Text: "\xff\x00 ::"}}, true},
		{"20", sourcesOf(20), true},
		{"21", sourcesOf(21), false},
		{"MaxList", sourcesOf(impl.MaxList), false},
		{"more than MaxList", sourcesOf(impl.MaxList + 1), false},
		{"a Name of 20 bytes", []impl.Source{{Name: strings.Repeat("a", 20)}}, true},
		{"a Name of 21 bytes", []impl.Source{{Name: strings.Repeat("a", 21)}}, false},
		{"no Name", []impl.Source{{}}, false},
	}
	for _, c := range cases {
		same(t, c.what, impl.SourcesRight(c.l), c.want)
	}
	for _, name := range rightNames {
		same(t, name, impl.SourcesRight([]impl.Source{{Name: name}}), true)
	}
	for _, name := range wrongNames {
		same(t, name, impl.SourcesRight([]impl.Source{{Name: name}}), false)
		same(t, name+" at the end", impl.SourcesRight([]impl.Source{{Name: "a"}, {Name: name}}), false)
	}
}

func TestObjectRightWords(t *testing.T) {
	same(t, "none", impl.ObjectRight(impl.Object{}), true)
	same(t, "empty lists", impl.ObjectRight(impl.Object{Words: []int64{}, Syms: []impl.Sym{}, Refs: []impl.Ref{}}), true)
	same(t, "MaxWords", impl.ObjectRight(impl.Object{Words: make([]int64, impl.MaxWords)}), true)
	same(t, "one more", impl.ObjectRight(impl.Object{Words: make([]int64, impl.MaxWords+1)}), false)
	same(t, "more than MaxList", impl.ObjectRight(impl.Object{Words: make([]int64, impl.MaxList+1)}), false)
	same(t, "words", impl.ObjectRight(impl.Object{Words: wordEdges}), true)
	for _, n := range noWords {
		same(t, "no word", impl.ObjectRight(impl.Object{Words: []int64{n}}), false)
		same(t, "no word at the end", impl.ObjectRight(impl.Object{Words: []int64{1, 2, n}}), false)
	}
}

func TestObjectRightSyms(t *testing.T) {
	words := []int64{7, 8, 9}
	cases := []struct {
		what string
		syms []impl.Sym
		want bool
	}{
		{"at the begin", []impl.Sym{{Name: "a"}}, true},
		{"at the end", []impl.Sym{{Name: "a", At: 3}}, true},
		{"behind the end", []impl.Sym{{Name: "a", At: 4}}, false},
		{"below 0", []impl.Sym{{Name: "a", At: -1}}, false},
		{"far", []impl.Sym{{Name: "a", At: math.MaxInt64}}, false},
		{"far below", []impl.Sym{{Name: "a", At: math.MinInt64}}, false},
		{"rising", []impl.Sym{{Name: "a", At: 3, Global: true}, {Name: "aa", At: 1}, {Name: "b", At: 3}}, true},
		{"falling", []impl.Sym{{Name: "b"}, {Name: "a"}}, false},
		{"the shorter one behind", []impl.Sym{{Name: "aa"}, {Name: "a"}}, false},
		{"alike", []impl.Sym{{Name: "a"}, {Name: "a", At: 1, Global: true}}, false},
		{"wrong at the end", []impl.Sym{{Name: "a"}, {Name: "b", At: 4}}, false},
		{"no Name", []impl.Sym{{}}, false},
	}
	for _, c := range cases {
		same(t, c.what, impl.ObjectRight(impl.Object{Words: words, Syms: c.syms}), c.want)
	}
	same(t, "without words", impl.ObjectRight(impl.Object{Syms: []impl.Sym{{Name: "a"}}}), true)
	same(t, "without words, behind them", impl.ObjectRight(impl.Object{Syms: []impl.Sym{{Name: "a", At: 1}}}), false)
	for _, name := range rightNames {
		same(t, name, impl.ObjectRight(impl.Object{Syms: []impl.Sym{{Name: name}}}), true)
	}
	for _, name := range wrongNames {
		same(t, name, impl.ObjectRight(impl.Object{Syms: []impl.Sym{{Name: name}}}), false)
	}
	var many []impl.Sym
	for i := range 5000 {
		many = append(many, impl.Sym{Name: fmt.Sprintf("a%05d", i)})
	}
	same(t, "many", impl.ObjectRight(impl.Object{Syms: many}), true)
	slices.Reverse(many)
	same(t, "many, falling", impl.ObjectRight(impl.Object{Syms: many}), false)
}

func TestObjectRightRefs(t *testing.T) {
	words := []int64{7, 8, 9}
	cases := []struct {
		what string
		refs []impl.Ref
		want bool
	}{
		{"the first word", []impl.Ref{{Name: "a"}}, true},
		{"the last word", []impl.Ref{{Name: "a", At: 2}}, true},
		{"behind the last word", []impl.Ref{{Name: "a", At: 3}}, false},
		{"below 0", []impl.Ref{{Name: "a", At: -1}}, false},
		{"far", []impl.Ref{{Name: "a", At: math.MaxInt64}}, false},
		{"far below", []impl.Ref{{Name: "a", At: math.MinInt64}}, false},
		{"rising, Names falling", []impl.Ref{{Name: "c", Jump: true}, {Name: "b", At: 1}, {Name: "a", At: 2}}, true},
		{"rising, Names alike", []impl.Ref{{Name: "a"}, {Name: "a", At: 2}}, true},
		{"falling", []impl.Ref{{Name: "a", At: 1}, {Name: "b"}}, false},
		{"alike", []impl.Ref{{Name: "a", At: 1}, {Name: "b", At: 1}}, false},
		{"wrong at the end", []impl.Ref{{Name: "a"}, {Name: "b", At: 3}}, false},
		{"Add at most", []impl.Ref{{Name: "a", Add: 32767}}, true},
		{"Add more", []impl.Ref{{Name: "a", Add: 32768}}, false},
		{"Add at least", []impl.Ref{{Name: "a", Add: -32767, Jump: true}}, true},
		{"Add less", []impl.Ref{{Name: "a", Add: -32768, Jump: true}}, false},
		{"Add far", []impl.Ref{{Name: "a", Add: math.MaxInt64}}, false},
		{"Add far below", []impl.Ref{{Name: "a", Add: math.MinInt64}}, false},
		{"no Name", []impl.Ref{{}}, false},
	}
	for _, c := range cases {
		same(t, c.what, impl.ObjectRight(impl.Object{Words: words, Refs: c.refs}), c.want)
	}
	same(t, "without words", impl.ObjectRight(impl.Object{Refs: []impl.Ref{{Name: "a"}}}), false)
	for _, name := range rightNames {
		same(t, name, impl.ObjectRight(impl.Object{Words: words, Refs: []impl.Ref{{Name: name}}}), true)
	}
	for _, name := range wrongNames {
		same(t, name, impl.ObjectRight(impl.Object{Words: words, Refs: []impl.Ref{{Name: name}}}), false)
	}
}
