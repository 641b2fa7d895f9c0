package tests

import (
	"fmt"
	"math"
	"slices"
	"strings"
	"testing"

	"loop.example/g00367/impl"
)

// shopWith: a Shop of these sources, a part of it synced.
func shopWith(l []impl.Source) impl.Shop {
	s := impl.Shop{Synced: int64(len(l))}
	for _, source := range l {
		s.Log += edits(source.Name, source.Text)
	}
	return s
}

// notPublished: a fault of Build, and where it is.
func notPublished(code int64, file string, line int64) impl.ShopOut {
	return impl.ShopOut{Code: code, File: file, Line: line}
}

func TestPublishHand(t *testing.T) {
	s := shopWith([]impl.Source{{Name: "a", Text: ".word 5"}, {Name: "b", Text: ".global x\nx: .word 0xabcd, x"}, {Name: "empty"}, {Name: "more", Text: ".include a\n.word x"}})
	cases := []struct {
		mains []string
		base  int64
		image string
	}{
		{[]string{"a"}, 16, ":020010000500E9\n:00000001FF\n"},
		{[]string{"a"}, 0, ":020000000500F9\n:00000001FF\n"},
		{[]string{"a"}, 65534, ":02FFFE000500FC\n:00000001FF\n"},
		{[]string{"b"}, 256, hexLine(4, 1, 0, 0, 0xcd, 0xab, 0, 1) + hexEnd},
		{[]string{"b", "more", "a"}, 4096, hexLine(10, 16, 0, 0, 0xcd, 0xab, 0, 16, 5, 0, 0, 16, 5, 0) + hexEnd},
		{[]string{"empty"}, 0, hexEnd},
		{[]string{"empty"}, 4096, hexEnd},
		{[]string{"empty"}, 65534, hexEnd},
	}
	for _, c := range cases {
		what := fmt.Sprint(c.mains, c.base)
		got := isPublished(t, what, s, c.mains, c.base)
		same(t, what, got, impl.ShopOut{Shop: impl.Shop{Log: s.Log + publishes(c.image), Synced: s.Synced}})
		same(t, what+" again", isPublished(t, what, got.Shop, c.mains, c.base).Shop.Log, s.Log+publishes(c.image)+publishes(c.image))
		state := impl.StateOf(got.Shop.Log)
		same(t, what, []any{state.Image, state.Builds}, []any{c.image, int64(1)})
	}
}

func TestPublishMains(t *testing.T) {
	s := shopWith(plainSources())
	form := told(impl.ErrForm)
	var mains []string
	for i := range 10 {
		want := form
		if i >= 1 && i <= 6 {
			want = impl.ShopOut{Shop: impl.Shop{Log: s.Log + publishes(hexMeant(8, []int64{10, 11, 12, 13, 14, 15}[:i])), Synced: s.Synced}}
		}
		same(t, fmt.Sprint(i), isPublished(t, fmt.Sprint(i), s, mains, 8), want)
		mains = append(mains, fmt.Sprintf("m%d", i))
	}
	for what, wrong := range map[string][]string{
		"an empty list": {}, "two alike": {"m1", "m1"}, "no name": {"m1", "M"}, "an empty name": {""}, "a name of 21 bytes": {hugeName(21)}, "a text of more than MaxBytes": {hugeName(8001)},
		"two alike that are no sources": {"x", "x"}, "no name, behind one that is no source": {"x", "X"}, "MaxList": slices.Repeat(mains, 40),
	} {
		same(t, what, isPublished(t, what, s, wrong, 8), form)
	}
	tooMany := slices.Repeat([]string{"m0"}, impl.MaxList+1)
	same(t, "more than MaxList", isPublished(t, "more", s, tooMany, 8), told(impl.ErrSize))
	same(t, "more than MaxList, and no base", isPublished(t, "more", s, tooMany, 7), told(impl.ErrSize))
}

func TestPublishBases(t *testing.T) {
	s := shopWith([]impl.Source{{Name: "a", Text: ".word 7"}, {Name: "b", Text: "wrong"}, {Name: "c", Text: ".word 7, 8"}, {Name: "empty"}})
	form := told(impl.ErrForm)
	for _, base := range []int64{-2, -1, 1, 3, 65533, 65535, 65536, 65538, -65536, 1 << 32, math.MinInt64, math.MaxInt64} {
		for _, main := range []string{"a", "b", "c", "empty", "missing"} {
			same(t, fmt.Sprint(main, base), isPublished(t, "base", s, []string{main}, base), form)
		}
	}
	for _, base := range []int64{0, 2, 256, 65532, 65534} {
		same(t, fmt.Sprint("a", base), isPublished(t, "base", s, []string{"a"}, base).Code, int64(impl.OK))
		same(t, fmt.Sprint("empty", base), isPublished(t, "base", s, []string{"empty"}, base).Code, int64(impl.OK))
	}
	same(t, "room for both", isPublished(t, "both", s, []string{"c"}, 65532).Code, int64(impl.OK))
	same(t, "room for one", isPublished(t, "one", s, []string{"c"}, 65534), notPublished(impl.ErrFull, "c", 0))
}

// TestPublishFaults: each fault of Build, its File and Line.
func TestPublishFaults(t *testing.T) {
	s := shopWith([]impl.Source{
		{Name: "a", Text: ".word 7"}, {Name: "bad", Text: "reti\nreti\nwrong"}, {Name: "deep", Text: "\n.include deep"}, {Name: "far", Text: ".space 100\n.space 100\n.space 100\njmp x"},
		{Name: "glob", Text: "\n.global y"}, {Name: "inc", Text: "reti\n.include bad"}, {Name: "many", Text: ".space 100\n.space 100\n.space 100\n\nreti"}, {Name: "none", Text: "\n\n\n.include x"},
		{Name: "odd", Text: "jmp x+1"}, {Name: "room", Text: ".space 100\n.space 100"}, {Name: "twice", Text: "a:\na:"}, {Name: "want", Text: "reti\n.word y"},
		{Name: "x1", Text: ".global x\nx:"}, {Name: "x2", Text: ".global x\nx:"},
	})
	cases := []struct {
		mains string
		want  impl.ShopOut
	}{
		{"missing", notPublished(impl.ErrNone, "missing", 0)},
		{"bad second first", notPublished(impl.ErrNone, "second", 0)},
		{"bad", notPublished(impl.ErrSyntax, "bad", 2)},
		{"a inc", notPublished(impl.ErrSyntax, "bad", 2)},
		{"deep", notPublished(impl.ErrDeep, "deep", 1)},
		{"glob", notPublished(impl.ErrNone, "glob", 0)},
		{"many", notPublished(impl.ErrFull, "many", 4)},
		{"none", notPublished(impl.ErrNone, "none", 3)},
		{"twice bad", notPublished(impl.ErrThere, "twice", 1)},
		{"a want", notPublished(impl.ErrNone, "want", 0)},
		{"x1 a x2", notPublished(impl.ErrThere, "x2", 0)},
		{"x1 odd", notPublished(impl.ErrRange, "odd", 0)},
		{"a far", notPublished(impl.ErrFull, "far", 3)},
		{"room a x1 odd", notPublished(impl.ErrRange, "odd", 0)},
		{"room inc", notPublished(impl.ErrSyntax, "bad", 2)},
		{"a room", impl.ShopOut{Shop: impl.Shop{Log: s.Log + publishes(hexMeant(64, append([]int64{7}, make([]int64, 200)...))), Synced: s.Synced}}},
	}
	for _, c := range cases {
		same(t, c.mains, isPublished(t, c.mains, s, strings.Fields(c.mains), 64), c.want)
	}
	for what, wrong := range wrongShops() {
		for _, mains := range [][]string{{"a"}, {"missing"}, {}, {"A"}} {
			same(t, what, isPublished(t, what, wrong, mains, 64), told(impl.ErrForm))
		}
		same(t, what, isPublished(t, what, wrong, slices.Repeat([]string{"a"}, 401), 64), told(impl.ErrSize))
	}
	same(t, "no sources", isPublished(t, "no sources", impl.Shop{}, []string{"a"}, 0), notPublished(impl.ErrNone, "a", 0))
}

// TestPublishMost: as many words as there may be, whose image has its place, and one more.
func TestPublishMost(t *testing.T) {
	l := []impl.Source{{Name: "a", Text: ".word 0xffff\n.space 99"}, {Name: "b", Text: ".space 100\n.space 100"}, {Name: "c", Text: ".word 1"}}
	s := shopWith(l)
	want := append([]int64{65535}, make([]int64, 299)...)
	same(t, "most", isPublished(t, "most", s, []string{"a", "b"}, 65536-600), impl.ShopOut{Shop: impl.Shop{Log: s.Log + publishes(hexMeant(65536-600, want)), Synced: 3}})
	same(t, "too far behind", isPublished(t, "behind", s, []string{"a", "b"}, 65536-598), notPublished(impl.ErrFull, "a", 0))
	same(t, "one more", isPublished(t, "one more", s, []string{"a", "b", "c"}, 0), notPublished(impl.ErrFull, "a", 0))
}
