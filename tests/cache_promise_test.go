package tests

import (
	"fmt"
	"slices"
	"strings"
	"testing"

	"loop.example/g00367/impl"
)

// keepsPromise10: sources are built with that cache as without one, and built again without anything being made. (Each
// whole Entry of a source's Key has that source's object; there is room for an Entry of each main, and each object's bytes
// fit in.)
func keepsPromise10(t *testing.T, l []impl.Source, mains []string, base int64, cache []impl.Entry) impl.BuildOut {
	t.Helper()
	what := fmt.Sprintf("%q of %q at %d with %q", mains, l, base, cache)
	plain := impl.Build(l, mains, base, nil)
	out := isBuiltAsMeant(t, what, l, mains, base, cache)
	same(t, what, []any{out.Words, out.File, out.Line, out.Code}, []any{plain.Words, plain.File, plain.Line, plain.Code})
	if out.Code != impl.OK {
		return out
	}
	if len(cache)+len(mains) <= impl.MaxEntries {
		same(t, what+" again", impl.Build(l, mains, base, out.Cache), impl.BuildOut{Words: out.Words, Cache: out.Cache})
	}
	again := impl.Build(l, mains, base, plain.Cache)
	same(t, what+" again, with what is made alone", again, impl.BuildOut{Words: out.Words, Cache: plain.Cache})
	return out
}

// promised: sources of which main, side and part may be linked, bad is wrong, and want asks for what there is not.
func promised() []impl.Source {
	return []impl.Source{
		{Name: "bad", Text: "reti\n.word 1,\n"},
		{Name: "main", Text: ".global start\nstart: mov #table+2, r5\nloop: cmp @r5+, &far\njne loop\n.include part\n"},
		{Name: "part", Text: "push #start-2\n"},
		{Name: "side", Text: ".global table\n.global far\ntable: .word 1, 2, 3\nfar: .space 2\n"},
		{Name: "want", Text: ".word nothing"},
	}
}

// promisedMains: what is built of these without a fault, and with one.
var promisedMains = [][]string{
	{"main", "side"}, {"side", "main"}, {"side"}, {"main"}, {"main", "part", "side"}, {"main", "side", "want"}, {"main", "side", "bad"}, {"bad", "main"},
	{"main", "none"}, {"main", "main"}, {},
}

func TestPromise10Caches(t *testing.T) {
	l := promised()
	whole := entriesOf(l, "main", "side", "part")
	keyed := func(text string) []impl.Entry {
		var out []impl.Entry
		for _, s := range l {
			out = append(out, impl.Entry{Key: keyMeant(l, s.Name), Text: text})
		}
		return out
	}
	caches := [][]impl.Entry{
		nil, {}, whole, whole[:1], whole[1:2], strangers(5), strangers(8), slices.Concat(strangers(5), whole), slices.Concat(whole, strangers(5)),
		keyed(""), keyed("abc"), keyed("\x00\x00\x00\x00"), keyed("wrong"), keyed(sealModel("x")), keyed(sealModel(bytesMeant(impl.Object{Words: []int64{-1}}))),
		keyed(sealModel(strings.Repeat("\x00", 4))), keyed(long(8000)), keyed(sealModel(long(7996))), slices.Concat(keyed("wrong"), strangers(3)),
	}
	for _, cache := range caches {
		for _, mains := range promisedMains {
			for _, base := range []int64{0, 4096, 65534, 7, 65000} {
				keepsPromise10(t, l, mains, base, cache)
			}
		}
	}
}

// TestPromise10Torn: an Entry that ends too early, or has a byte turned, or one more, counts for nothing.
func TestPromise10Torn(t *testing.T) {
	l := promised()
	mains := []string{"main", "side"}
	whole := entriesOf(l, mains...)
	plain := impl.Build(l, mains, 512, nil)
	for i := range whole {
		isMade := func(text string) {
			t.Helper()
			cache := slices.Clone(whole)
			cache[i].Text = text
			out := keepsPromise10(t, l, mains, 512, cache)
			same(t, fmt.Sprintf("%q", text), out, impl.BuildOut{Words: plain.Words, Cache: []impl.Entry{whole[1-i], whole[i]}, Made: 1})
		}
		text := whole[i].Text
		for at := range text {
			isMade(text[:at])
			isMade(text[at+1:])
			for _, turn := range []byte{1, 2, 128, 255, byte(1 + at%254)} {
				isMade(text[:at] + string([]byte{text[at] ^ turn}) + text[at+1:])
			}
		}
		isMade(text + "\x00")
		isMade(text + text)
	}
}

// TestPromise10Edited: with the cache of how sources were ahead of each change, they are built as they are.
func TestPromise10Edited(t *testing.T) {
	l := promised()
	mains := []string{"main", "side"}
	cache := impl.Build(l, mains, 512, nil).Cache
	rows := []struct {
		name string
		text string
		made int64
	}{
		{"part", "push #start+2\n", 1}, {"part", "push #start+2 \n", 1}, {"side", ".global table\n.global far\nfar:\ntable: .word 4", 1}, {"bad", "reti", 0},
		{"want", ".include main", 0}, {"main", ".global start\nstart: call #table\n.include part\n.include want2", -1},
		{"main", ".global start\nstart: call #table\n.include part\n", 1}, {"part", "push #start-2\n", 1}, {"side", ".global table\ntable:", 1},
	}
	for _, r := range rows {
		for i := range l {
			if l[i].Name == r.name {
				l[i].Text = r.text
			}
		}
		out := keepsPromise10(t, l, mains, 512, cache[max(0, len(cache)-6):])
		if r.made < 0 {
			same(t, r.text, out.Code, int64(impl.ErrNone))
			continue
		}
		same(t, r.text, []int64{out.Made, out.Code}, []int64{r.made, impl.OK})
		cache = out.Cache
	}
}

// TestBuildAgain: built again with what the cache is then, nothing is made, as long as there is room for all.
func TestBuildAgain(t *testing.T) {
	l := plainSources()
	for many := 1; many <= 6; many++ {
		for others := range 9 {
			var mains []string
			for i := range many {
				mains = append(mains, l[i].Name)
			}
			first := isBuiltAsMeant(t, fmt.Sprint(many, others), l, mains, 0, strangers(others))
			same(t, fmt.Sprint(many, others), first.Made, int64(many))
			same(t, fmt.Sprint(many, others, " again"), impl.Build(l, mains, 0, first.Cache), impl.BuildOut{Words: first.Words, Cache: first.Cache})
		}
	}
}

// linkedSources: those of a tree at random, of which what is not labelled is, and two more that are built beside.
func (d *dice) linkedSources() []impl.Source {
	l := d.rightSources()
	l = append(l, impl.Source{Name: "t0", Text: ".global zero\n.global r4\nr4: .global mov\nmov: reti\nzero:"}, impl.Source{Name: "t1", Text: ".word zero, r4+1\n.include s004"})
	if d.below(12) == 0 {
		l[d.below(len(l))].Text += "\n" + d.pick(refusedLines)
	}
	return l
}

// cacheFor: Entries of some of the sources, whole or torn, and of strangers.
func (d *dice) cacheFor(l []impl.Source) []impl.Entry {
	var out []impl.Entry
	for _, s := range l {
		made := assembledMeant(l, s.Name)
		if made.Code != impl.OK || d.below(2) == 0 {
			continue
		}
		e := entryOf(l, s.Name)
		text := []byte(e.Text)
		switch d.below(4) {
		case 0:
			text[d.below(len(text))] ^= byte(1 + d.below(255))
		case 1:
			text = text[:d.below(len(text))]
		}
		out = slices.Insert(out, d.below(len(out)+1), impl.Entry{Key: e.Key, Text: string(text)})
	}
	for _, e := range strangers(d.below(5)) {
		out = slices.Insert(out, d.below(len(out)+1), e)
	}
	return out[:min(len(out), impl.MaxEntries)]
}

func TestPromise10Random(t *testing.T) {
	d := dice{10}
	seen := map[int64]int{}
	found, gone := 0, 0
	for range 2500 {
		l := d.linkedSources()
		mains := []string{"s000", "t0", "t1", "s004"}
		for range d.below(4) {
			i, k := d.below(4), d.below(4)
			mains[i], mains[k] = mains[k], mains[i]
		}
		mains = mains[:1+d.below(4)]
		cache := d.cacheFor(l)
		out := keepsPromise10(t, l, mains, int64(2*d.below(32768)), cache)
		seen[out.Code]++
		if out.Code == impl.OK && out.Made < int64(len(mains)) {
			found++
		}
		if out.Code == impl.OK && len(cache) == impl.MaxEntries && out.Made > 0 {
			gone++
		}
	}
	if seen[impl.OK] < 500 || seen[impl.ErrNone] < 100 || seen[impl.ErrSyntax] < 20 || found < 300 || gone < 20 {
		t.Errorf("too little was asked: codes %v, %d times found, %d times one gone", seen, found, gone)
	}
}

// TestBuildRandom: arguments at random, right and not.
func TestBuildRandom(t *testing.T) {
	d := dice{100}
	l := promised()
	names := []string{"main", "side", "part", "bad", "want", "none", "Wrong", "main", "side"}
	seen := map[int64]int{}
	for range 20000 {
		sources := slices.Clone(l)
		if d.below(12) == 0 {
			i, k := d.below(5), d.below(5)
			sources[i], sources[k] = sources[k], sources[i]
		}
		var mains []string
		for range d.below(4) {
			mains = append(mains, d.pick(names))
		}
		var cache []impl.Entry
		for range d.below(3) {
			cache = append(cache, impl.Entry{Key: keyMeant(l, d.pick(names[:5])), Text: d.text(d.below(20))})
		}
		base := int64(d.below(70000) - 1000)
		if d.below(3) > 0 {
			base = int64(2 * d.below(32768))
		}
		seen[isBuiltAsMeant(t, fmt.Sprintf("%q of %q at %d with %q", mains, sources, base, cache), sources, mains, base, cache).Code]++
	}
	for _, code := range []int64{impl.OK, impl.ErrForm, impl.ErrNone, impl.ErrSyntax} {
		if seen[code] < 300 {
			t.Errorf("code %d was told %d times", code, seen[code])
		}
	}
}
