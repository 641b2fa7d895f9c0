package tests

import (
	"fmt"
	"slices"
	"strings"
	"testing"

	"loop.example/g00367/impl"
)

func TestCacheRight(t *testing.T) {
	key := func(n int) string { return fmt.Sprintf("key of 16 %06d", n) }
	entries := func(many int) []impl.Entry {
		var out []impl.Entry
		for i := range many {
			out = append(out, impl.Entry{Key: key(i)})
		}
		return out
	}
	cases := []struct {
		what string
		l    []impl.Entry
		want bool
	}{
		{"none", nil, true},
		{"an empty list", []impl.Entry{}, true},
		{"one", entries(1), true},
		{"MaxEntries", entries(impl.MaxEntries), true},
		{"one more", entries(impl.MaxEntries + 1), false},
		{"MaxList", entries(impl.MaxList), false},
		{"more than MaxList", entries(impl.MaxList + 1), false},
		{"no Key", []impl.Entry{{}}, false},
		{"a Key of 15 bytes", []impl.Entry{{Key: key(1)[1:]}}, false},
		{"a Key of 17 bytes", []impl.Entry{{Key: key(1) + "x"}}, false},
		{"a Key of 17 bytes at the end", append(entries(3), impl.Entry{Key: key(9) + "x"}), false},
		{"a Key of 15 bytes at the begin", append([]impl.Entry{{Key: key(9)[1:]}}, entries(3)...), false},
		{"any bytes", []impl.Entry{{Key: strings.Repeat("\x00", 16), Text: "\xff"}, {Key: strings.Repeat("\xff", 16)}}, true},
		{"falling", []impl.Entry{{Key: key(2)}, {Key: key(1)}}, true},
		{"two Keys alike", []impl.Entry{{Key: key(1)}, {Key: key(1)}}, false},
		{"two Keys alike, their Texts not", []impl.Entry{{Key: key(1), Text: "a"}, {Key: key(1), Text: "b"}}, false},
		{"two Keys alike, others between", append(entries(6), impl.Entry{Key: key(0)}), false},
		{"two Texts alike", []impl.Entry{{Key: key(1), Text: "a"}, {Key: key(2), Text: "a"}}, true},
		{"a Text of MaxBytes", []impl.Entry{{Key: key(1), Text: long(impl.MaxBytes)}}, true},
		{"a Text of MaxBytes and one more", []impl.Entry{{Key: key(1), Text: long(impl.MaxBytes + 1)}}, false},
		{"such a Text at the end", append(entries(7), impl.Entry{Key: key(9), Text: long(impl.MaxBytes + 1)}), false},
		{"MaxEntries Texts of MaxBytes", slices.Repeat([]impl.Entry{{Text: long(impl.MaxBytes)}}, impl.MaxEntries), false},
	}
	for _, c := range cases {
		same(t, c.what, impl.CacheRight(c.l), c.want)
	}
	most := entries(impl.MaxEntries)
	for i := range most {
		most[i].Text = long(impl.MaxBytes)
	}
	same(t, "as great as may be", impl.CacheRight(most), true)
}

// entryOf: the Entry that is made of a main of right sources.
func entryOf(l []impl.Source, main string) impl.Entry {
	return impl.Entry{Key: keyMeant(l, main), Text: sealModel(bytesMeant(assembledMeant(l, main).Object))}
}

func entriesOf(l []impl.Source, mains ...string) []impl.Entry {
	var out []impl.Entry
	for _, main := range mains {
		out = append(out, entryOf(l, main))
	}
	return out
}

// strangers: Entries of no source that is built here.
func strangers(many int) []impl.Entry {
	var out []impl.Entry
	for i := range many {
		out = append(out, impl.Entry{Key: fmt.Sprintf("stranger %07d", i), Text: fmt.Sprintf("text %d", i)})
	}
	return out
}

// plainSources: m0 to m9 of one word each, which is 10, 11 and so on.
func plainSources() []impl.Source {
	var l []impl.Source
	for i := range 10 {
		l = append(l, impl.Source{Name: fmt.Sprintf("m%d", i), Text: fmt.Sprintf(".word %d", 10+i)})
	}
	return l
}

func cannot(code int64, file string, line int64) impl.BuildOut {
	return impl.BuildOut{Code: code, File: file, Line: line}
}

func TestBuildHand(t *testing.T) {
	l := []impl.Source{
		{Name: "data", Text: ".global table\ntable: .word 1, start\n"},
		{Name: "main", Text: ".global start\nstart: mov #table, r5\n.include part\njmp start"},
		{Name: "part", Text: "call #table+2\n"},
	}
	words := []int64{0x4035, 4106, 0x12b0, 4108, 0x3ffb, 1, 4096}
	cache := []impl.Entry{
		{Key: digestMeant("\x08main\x20" + digestMeant(l[1].Text) + "\x08part\x20" + digestMeant(l[2].Text)),
			Text: sealModel("\x0a\xea\x80\x02\x00\xe0\x4a\x00\x80\xf0\x01" + "\x02\x0astart\x00\x02" + "\x06\x02\x0atable\x00\x00\x06\x0atable\x04\x00\x08\x0astart\x00\x02")},
		{Key: digestMeant("\x08data\x20" + digestMeant(l[0].Text)), Text: sealModel("\x04\x02\x00" + "\x02\x0atable\x00\x02" + "\x02\x02\x0astart\x00\x00")},
	}
	mains := []string{"main", "data"}
	isBuilt(t, "at first", l, mains, 4096, nil, impl.BuildOut{Words: words, Cache: cache, Made: 2})
	isBuilt(t, "again", l, mains, 4096, cache, impl.BuildOut{Words: words, Cache: cache})
	isBuilt(t, "with one of them", l, mains, 4096, cache[1:], impl.BuildOut{Words: words, Cache: []impl.Entry{cache[1], cache[0]}, Made: 1})
	other := impl.BuildOut{Words: []int64{1, 12, 0x4035, 8, 0x12b0, 10, 0x3ffb}, Cache: cache}
	isBuilt(t, "the other way round, at another base", l, []string{"data", "main"}, 8, cache, other)
	isBuilt(t, "one main alone", l, []string{"part"}, 0, nil, cannot(impl.ErrNone, "part", 0))
}

func TestBuildSizes(t *testing.T) {
	l, mains := plainSources(), []string{"m0"}
	tooMany := slices.Repeat([]string{"m0"}, impl.MaxList+1)
	tooSmall := sourcesOf(impl.MaxList + 1)
	size, form := cannot(impl.ErrSize, "", 0), cannot(impl.ErrForm, "", 0)
	isBuilt(t, "sources of MaxList", tooSmall[1:], mains, 0, nil, form)
	isBuilt(t, "sources of more than MaxList", tooSmall, mains, 0, nil, size)
	isBuilt(t, "mains of MaxList", l, tooMany[1:], 0, nil, form)
	isBuilt(t, "mains of more than MaxList", l, tooMany, 0, nil, size)
	isBuilt(t, "a cache of MaxList", l, mains, 0, strangers(impl.MaxList), form)
	isBuilt(t, "a cache of more than MaxList", l, mains, 0, strangers(impl.MaxList+1), size)
	wrong := []impl.Source{{Name: "b"}, {Name: "a"}}
	isBuilt(t, "mains of more than MaxList, ahead of wrong sources and base", wrong, tooMany, 1, strangers(9), size)
	isBuilt(t, "sources of more than MaxList, ahead of wrong mains", tooSmall, nil, 1, strangers(9), size)
	isBuilt(t, "a cache of more than MaxList, ahead of wrong mains", wrong, nil, 1, strangers(impl.MaxList+1), size)
	isBuilt(t, "a main of more than MaxBytes is no name", l, []string{strings.Repeat("a", impl.MaxBytes+1)}, 0, nil, form)
}

func TestBuildForms(t *testing.T) {
	l, mains := plainSources(), []string{"m0", "m1"}
	form := cannot(impl.ErrForm, "", 0)
	many := []string{"m0", "m1", "m2", "m3", "m4", "m5", "m6"}
	isBuilt(t, "six mains", l, many[:6], 0, nil, impl.BuildOut{Words: []int64{10, 11, 12, 13, 14, 15}, Cache: entriesOf(l, many[:6]...), Made: 6})
	for what, mains := range map[string][]string{
		"no mains": nil, "an empty list": {}, "seven mains": many, "two mains alike": {"m0", "m0"}, "two mains alike, one between": {"m0", "m1", "m0"},
		"two mains alike that are no sources": {"x", "x"}, "no name, behind one that is no source": {"x", "X"}, "seven that are no sources": strings.Split("abcdefg", ""),
	} {
		isBuilt(t, what, l, mains, 0, nil, form)
	}
	for _, name := range append([]string{"", strings.Repeat("a", 8000)}, wrongNames...) {
		isBuilt(t, "no name", l, []string{name}, 0, nil, form)
		isBuilt(t, "no name at the end", l, []string{"m0", name}, 0, nil, form)
	}
	wrongSources := [][]impl.Source{
		{{Name: "m1"}, {Name: "m0"}}, {{Name: "m0"}, {Name: "m0"}}, {{Name: "m0"}, {Name: "n", Text: long(4001)}}, {{Name: "M"}, {Name: "m0"}}, append(plainSources(), sourcesOf(11)...),
	}
	for _, wrong := range wrongSources {
		isBuilt(t, "sources that are not right", wrong, []string{"m0"}, 0, nil, form)
		isBuilt(t, "sources that are not right, and a main that is none", wrong, []string{"x"}, 0, nil, form)
	}
	wrongCaches := [][]impl.Entry{
		strangers(9), {{Key: "short"}}, append(strangers(2), strangers(1)...), {{Key: strings.Repeat("k", 16), Text: long(8001)}}, {{Key: strings.Repeat("k", 17)}},
	}
	for _, wrong := range wrongCaches {
		isBuilt(t, "a cache that is not right", l, mains, 0, wrong, form)
		isBuilt(t, "a cache that is not right, and a main that is none", l, []string{"x"}, 0, wrong, form)
	}
}

func TestBuildBases(t *testing.T) {
	l := []impl.Source{{Name: "a", Text: ".word 7"}, {Name: "b", Text: ".word 8"}, {Name: "none"}, {Name: "wrong", Text: "wrong"}}
	for _, base := range []int64{-2, -1, 1, 3, 65533, 65535, 65536, 65538, -65536, 1 << 32, -1 << 63, 1<<63 - 1} {
		isBuilt(t, fmt.Sprint(base), l, []string{"a"}, base, nil, cannot(impl.ErrForm, "", 0))
		isBuilt(t, fmt.Sprint(base), l, []string{"x"}, base, nil, cannot(impl.ErrForm, "", 0))
		isBuilt(t, fmt.Sprint(base), l, []string{"wrong"}, base, nil, cannot(impl.ErrForm, "", 0))
	}
	for _, base := range []int64{0, 2, 65532, 65534} {
		isBuilt(t, fmt.Sprint(base), l, []string{"a"}, base, nil, impl.BuildOut{Words: []int64{7}, Cache: entriesOf(l, "a"), Made: 1})
		isBuilt(t, fmt.Sprint(base)+" without words", l, []string{"none"}, base, nil, impl.BuildOut{Cache: entriesOf(l, "none"), Made: 1})
	}
	isBuilt(t, "two words below 65536", l, []string{"b", "a"}, 65532, nil, impl.BuildOut{Words: []int64{8, 7}, Cache: entriesOf(l, "b", "a"), Made: 2})
	isBuilt(t, "two words that have no room", l, []string{"b", "a"}, 65534, nil, cannot(impl.ErrFull, "b", 0))
}

func TestBuildNone(t *testing.T) {
	l := []impl.Source{{Name: "a", Text: ".word 7"}, {Name: "b", Text: ".include x"}, {Name: "c", Text: ".global x"}}
	isBuilt(t, "no source", l, []string{"x"}, 0, nil, cannot(impl.ErrNone, "x", 0))
	isBuilt(t, "no sources at all", nil, []string{"a"}, 0, nil, cannot(impl.ErrNone, "a", 0))
	isBuilt(t, "the first of two, behind one that is there", l, []string{"a", "y", "x"}, 0, nil, cannot(impl.ErrNone, "y", 0))
	isBuilt(t, "ahead of what is wrong in one ahead", l, []string{"b", "x"}, 0, nil, cannot(impl.ErrNone, "x", 0))
	isBuilt(t, "what is included", l, []string{"a", "b"}, 0, nil, cannot(impl.ErrNone, "b", 0))
	isBuilt(t, "what is to be Global", l, []string{"a", "c"}, 0, nil, cannot(impl.ErrNone, "c", 0))
}

func TestBuildAssembleFaults(t *testing.T) {
	l := []impl.Source{
		{Name: "a", Text: ".word 7"}, {Name: "bad", Text: "reti\nreti\nwrong"}, {Name: "deep", Text: "\n.include deep"},
		{Name: "full", Text: ".space 100\n.space 100\n.space 100\n\nreti"}, {Name: "inc", Text: "reti\n.include bad"}, {Name: "none", Text: "\n\n\n.include x"},
		{Name: "ref", Text: "jmp away"}, {Name: "twice", Text: "a:\na:"},
	}
	cases := []struct {
		mains []string
		want  impl.BuildOut
	}{
		{[]string{"bad"}, cannot(impl.ErrSyntax, "bad", 2)},
		{[]string{"inc"}, cannot(impl.ErrSyntax, "bad", 2)},
		{[]string{"deep"}, cannot(impl.ErrDeep, "deep", 1)},
		{[]string{"full"}, cannot(impl.ErrFull, "full", 4)},
		{[]string{"none"}, cannot(impl.ErrNone, "none", 3)},
		{[]string{"twice"}, cannot(impl.ErrThere, "twice", 1)},
		{[]string{"a", "twice", "bad"}, cannot(impl.ErrThere, "twice", 1)},
		{[]string{"bad", "a", "twice"}, cannot(impl.ErrSyntax, "bad", 2)},
		{[]string{"ref", "none"}, cannot(impl.ErrNone, "none", 3)},
		{[]string{"ref", "a"}, cannot(impl.ErrNone, "ref", 0)},
	}
	for _, c := range cases {
		what := fmt.Sprint(c.mains)
		isBuilt(t, what, l, c.mains, 0, nil, c.want)
		isBuilt(t, what+" with a cache", l, c.mains, 0, entriesOf(l, "a", "ref"), c.want)
		isBuilt(t, what+" with a full one", l, c.mains, 65532, strangers(8), c.want)
	}
}

func TestBuildLinkFaults(t *testing.T) {
	l := []impl.Source{
		{Name: "far", Text: ".space 100\nreti\njmp x+4000"}, {Name: "great", Text: ".space 100\n.space 100"}, {Name: "odd", Text: "jmp x+1"},
		{Name: "small", Text: ".space 100\nreti"}, {Name: "want", Text: ".word y"}, {Name: "x1", Text: ".global x\nx:"}, {Name: "x2", Text: "reti\nx: wrong"}, {Name: "x3", Text: "reti\nx:\n.global x"},
	}
	cases := []struct {
		mains []string
		want  impl.BuildOut
	}{
		{[]string{"x1", "x3"}, cannot(impl.ErrThere, "x3", 0)},
		{[]string{"x3", "small", "x1"}, cannot(impl.ErrThere, "x1", 0)},
		{[]string{"want"}, cannot(impl.ErrNone, "want", 0)},
		{[]string{"x1", "small", "want", "odd"}, cannot(impl.ErrNone, "want", 0)},
		{[]string{"x1", "small", "odd", "want"}, cannot(impl.ErrRange, "odd", 0)},
		{[]string{"far", "x1"}, cannot(impl.ErrRange, "far", 0)},
		{[]string{"x1", "far"}, cannot(impl.ErrRange, "far", 0)},
		{[]string{"great", "small"}, cannot(impl.ErrFull, "great", 0)},
		{[]string{"small", "great"}, cannot(impl.ErrFull, "small", 0)},
		{[]string{"want", "x1", "x3"}, cannot(impl.ErrThere, "x3", 0)},
		{[]string{"x2"}, cannot(impl.ErrSyntax, "x2", 1)},
		{[]string{"want", "x2"}, cannot(impl.ErrSyntax, "x2", 1)},
	}
	for _, c := range cases {
		what := fmt.Sprint(c.mains)
		isBuilt(t, what, l, c.mains, 0, nil, c.want)
		isBuilt(t, what+" with a cache", l, c.mains, 0, entriesOf(l, "far", "want", "x1", "x3", "small"), c.want)
		isBuilt(t, what+" with a full one", l, c.mains, 0, strangers(8), c.want)
	}
	isBuilt(t, "MaxWords", l, []string{"great", "want", "x1"}, 0, nil, cannot(impl.ErrNone, "want", 0))
}

// TestBuildOrder: where Entries that are found, made and not asked for stand.
func TestBuildOrder(t *testing.T) {
	l := plainSources()
	all := entriesOf(l, "m0", "m1", "m2", "m3", "m4", "m5", "m6", "m7", "m8", "m9")
	torn := func(e impl.Entry) impl.Entry { return impl.Entry{Key: e.Key, Text: e.Text[:len(e.Text)-1]} }
	cases := []struct {
		what  string
		mains string
		cache []impl.Entry
		left  []impl.Entry
		made  int64
	}{
		{"found ones keep their places", "m2 m0 m1", all[:4], all[:4], 0},
		{"a new one stands behind", "m4", all[:4], all[:5], 1},
		{"new ones stand in the order of mains", "m6 m4", all[:4], slices.Concat(all[:4], all[6:7], all[4:5]), 2},
		{"new ones among found ones", "m4 m1 m5 m0", all[:3], slices.Concat(all[:3], all[4:6]), 2},
		{"a torn one goes, and stands behind", "m1", []impl.Entry{all[0], torn(all[1]), all[2]}, []impl.Entry{all[0], all[2], all[1]}, 1},
		{"a torn one that is not asked for stays", "m0", []impl.Entry{all[0], torn(all[1])}, []impl.Entry{all[0], torn(all[1])}, 0},
		{"up to MaxEntries", "m7", all[:7], all[:8], 1},
		{"of MaxEntries the first goes", "m8", all[:8], all[1:9], 1},
		{"of MaxEntries the first two go", "m8 m9", all[:8], all[2:10], 2},
		{"of MaxEntries a torn one goes, no other", "m3", slices.Concat(all[:3], []impl.Entry{torn(all[3])}, all[4:8]), slices.Concat(all[:3], all[4:8], all[3:4]), 1},
		{"of MaxEntries the first one is torn", "m0", slices.Concat([]impl.Entry{torn(all[0])}, all[1:8]), slices.Concat(all[1:8], all[:1]), 1},
		{"of MaxEntries the last one is torn", "m7", slices.Concat(all[:7], []impl.Entry{torn(all[7])}), all[:8], 1},
		{"one that goes is made again, if it is asked for later", "m8 m0", all[:8], slices.Concat(all[2:9], all[:1]), 2},
		{"one that goes was found ahead of that", "m0 m8", all[:8], all[1:9], 1},
		{"each goes ahead of when it is asked for", "m8 m0 m1 m2 m3 m4", all[:8], slices.Concat(all[6:9], all[:5]), 6},
		{"strangers go first", "m0 m1 m2 m3 m4 m5", strangers(8), slices.Concat(strangers(8)[6:], all[:6]), 6},
		{"a torn one, and two new ones", "m8 m3 m9", slices.Concat(all[:3], []impl.Entry{torn(all[3])}, all[4:8]), slices.Concat(all[2:3], all[4:9], all[3:4], all[9:10]), 3},
	}
	for _, c := range cases {
		want := impl.BuildOut{Cache: c.left, Made: c.made}
		for _, main := range strings.Fields(c.mains) {
			want.Words = append(want.Words, 10+int64(main[1]-'0'))
		}
		isBuilt(t, c.what, l, strings.Fields(c.mains), 100, c.cache, want)
	}
}

// TestBuildEntryCounts: which Entry of a main's Key tells its object.
func TestBuildEntryCounts(t *testing.T) {
	l := []impl.Source{{Name: "a", Text: "x: .word 7"}, {Name: "b", Text: ".word 8"}, {Name: "bad", Text: "wrong"}}
	whole := entryOf(l, "a")
	good := impl.BuildOut{Words: []int64{7}, Cache: []impl.Entry{whole}, Made: 1}
	isBuilt(t, "the one that was made", l, []string{"a"}, 0, []impl.Entry{whole}, impl.BuildOut{Words: []int64{7}, Cache: []impl.Entry{whole}})
	other := impl.Entry{Key: whole.Key, Text: sealModel(bytesMeant(impl.Object{Words: []int64{9, 9}}))}
	isBuilt(t, "another object", l, []string{"a"}, 0, []impl.Entry{other}, impl.BuildOut{Words: []int64{9, 9}, Cache: []impl.Entry{other}})
	ofBad := impl.Entry{Key: keyMeant(l, "bad"), Text: other.Text}
	isBuilt(t, "of a source with wrong lines", l, []string{"bad"}, 0, []impl.Entry{ofBad}, impl.BuildOut{Words: []int64{9, 9}, Cache: []impl.Entry{ofBad}})
	swapped := []impl.Entry{{Key: whole.Key, Text: entryOf(l, "b").Text}, {Key: keyMeant(l, "b"), Text: whole.Text}}
	isBuilt(t, "of each other", l, []string{"a", "b"}, 0, swapped, impl.BuildOut{Words: []int64{8, 7}, Cache: swapped})
	bytes := bytesMeant(assembledMeant(l, "a").Object)
	texts := []string{
		"", "x", bytes, sealModel(""), sealModel("x"), sealModel(bytes + "\x00"), sealModel(bytes[1:]), sealModel(sealModel(bytes)), whole.Text + "\x00", "\x00" + whole.Text,
		sealModel(bytesMeant(impl.Object{Words: []int64{65536}})), sealModel(bytesMeant(withSyms(local("b", 0), local("a", 0)))), sealModel("\x82\x00\x0e" + bytes[2:]),
		sealModel(long(7996)), long(8000),
	}
	for _, text := range texts {
		isBuilt(t, fmt.Sprintf("%q", text), l, []string{"a"}, 0, []impl.Entry{{Key: whole.Key, Text: text}}, good)
	}
	for at := range 16 {
		key := []byte(whole.Key)
		key[at] ^= 1
		stranger := impl.Entry{Key: string(key), Text: other.Text}
		isBuilt(t, "another Key", l, []string{"a"}, 0, []impl.Entry{stranger}, impl.BuildOut{Words: []int64{7}, Cache: []impl.Entry{stranger, whole}, Made: 1})
	}
	turned := []impl.Source{{Name: "a", Text: "x: .word 6"}}
	isBuilt(t, "of a Text that is another by a byte", turned, []string{"a"}, 0, []impl.Entry{whole}, impl.BuildOut{Words: []int64{6}, Cache: []impl.Entry{whole, entryOf(turned, "a")}, Made: 1})
}

// bigSources: a, and a main big, whose object has so many bytes (of some thousand) and no words.
func bigSources(many int) []impl.Source {
	l := []impl.Source{{Name: "a", Text: ".word 7"}, {Name: "big", Text: ".include more\n"}, {Name: "more"}}
	for i, name := range namesOfBytes(many) {
		l[1+i%2].Text += name + ":\n"
	}
	return l
}

// TestBuildWithoutSeal: what has too many bytes for a Seal is made each time, and leaves no Entry.
func TestBuildWithoutSeal(t *testing.T) {
	for _, many := range []int{7994, 7995, 7996, 7997, 7998, 7999, 8000, 8001, 8002, 8020} {
		what := fmt.Sprint(many)
		l := bigSources(many)
		same(t, what+": how many bytes", len(bytesMeant(assembledMeant(l, "big").Object)), many)
		key := keyMeant(l, "big")
		wrong := []impl.Entry{{Key: key, Text: "wrong"}}
		var left []impl.Entry
		after := strangers(8)
		if many <= 7996 {
			left = entriesOf(l, "big")
			after = slices.Concat(strangers(8)[1:], left)
		}
		isBuilt(t, what, l, []string{"big"}, 0, nil, impl.BuildOut{Cache: left, Made: 1})
		isBuilt(t, what+" again", l, []string{"big"}, 0, left, impl.BuildOut{Cache: left, Made: int64(1 - len(left))})
		isBuilt(t, what+" with an Entry that is wrong", l, []string{"big"}, 0, wrong, impl.BuildOut{Cache: left, Made: 1})
		isBuilt(t, what+" with others", l, []string{"big"}, 0, slices.Concat(strangers(3), wrong, strangers(5)[3:]), impl.BuildOut{Cache: slices.Concat(strangers(5), left), Made: 1})
		isBuilt(t, what+" with MaxEntries others", l, []string{"big"}, 0, strangers(8), impl.BuildOut{Cache: after, Made: 1})
		isBuilt(t, what+" with another main", l, []string{"big", "a"}, 0, nil, impl.BuildOut{Words: []int64{7}, Cache: slices.Concat(left, entriesOf(l, "a")), Made: 2})
		found := []impl.Entry{{Key: key, Text: sealModel(bytesMeant(ones(1)))}}
		isBuilt(t, what+" that is found", l, []string{"big"}, 0, found, impl.BuildOut{Words: []int64{1}, Cache: found})
	}
}

// TestBuildOfMost: as many words, mains and sources as there may be.
func TestBuildOfMost(t *testing.T) {
	l := sourcesOf(20)
	var mains []string
	want := impl.BuildOut{Made: 6}
	for i := range 6 {
		l[i].Text = fmt.Sprintf(".include s%03d\n.space 49\n;", i+10)
		l[i].Text += strings.Repeat(".", 4000-len(l[i].Text))
		l[i+10].Text = fmt.Sprintf("x: .word %d", i)
		mains = append(mains, l[i].Name)
		want.Words = append(append(want.Words, int64(i)), make([]int64, 49)...)
	}
	want.Cache = entriesOf(l, mains...)
	isBuilt(t, "most", l, mains, 65536-600, nil, want)
	isBuilt(t, "most, too far behind", l, mains, 65536-598, nil, cannot(impl.ErrFull, "s000", 0))
	l[5].Text = strings.Replace(l[5].Text, ".space 49", ".space 50", 1)
	isBuilt(t, "one word more", l, mains, 0, nil, cannot(impl.ErrFull, "s000", 0))
}

func TestBuildNewMemory(t *testing.T) {
	fresh := func() ([]impl.Source, []string, []impl.Entry) {
		l := []impl.Source{{Name: strings.Clone("aa"), Text: strings.Clone("xx: .word 7")}, {Name: strings.Clone("bb"), Text: strings.Clone("wrong")}}
		return l, []string{strings.Clone("aa")}, append(entriesOf(l, "aa"), strangers(1)...)
	}
	l, mains, cache := fresh()
	out := impl.Build(l, mains, 0, cache)
	same(t, "found", out, impl.BuildOut{Words: []int64{7}, Cache: cache})
	for _, e := range out.Cache {
		for _, handed := range cache {
			if sharesMemory(e.Key, handed.Key) || sharesMemory(e.Text, handed.Text) {
				t.Errorf("%q lies in what was handed in", e)
			}
		}
	}
	out.Cache[0], out.Words[0] = impl.Entry{}, 9
	wantL, wantMains, wantCache := fresh()
	same(t, "handed in", []any{l, mains, cache}, []any{wantL, wantMains, wantCache})
	same(t, "again", impl.Build(l, mains, 0, cache), impl.BuildOut{Words: []int64{7}, Cache: cache})
	roomy := append(make([]impl.Entry, 0, 9), cache[1])
	same(t, "made", impl.Build(l, mains, 0, roomy), impl.BuildOut{Words: []int64{7}, Cache: []impl.Entry{cache[1], cache[0]}, Made: 1})
	same(t, "behind what was handed in", roomy[:2][1], impl.Entry{})
	missing := []string{strings.Clone("missing")}
	if file := impl.Build(l, missing, 0, nil).File; file != "missing" || sharesMemory(file, missing[0]) {
		t.Errorf("%q lies in what was handed in", file)
	}
	wrong := []string{strings.Clone("bb")}
	if file := impl.Build(l, wrong, 0, nil).File; file != "bb" || sharesMemory(file, wrong[0]) || sharesMemory(file, l[1].Name) {
		t.Errorf("%q lies in what was handed in", file)
	}
	two := []string{strings.Clone("aa"), strings.Clone("cc")}
	refs := []impl.Source{l[0], {Name: "cc", Text: ".word yy"}}
	if file := impl.Build(refs, two, 0, nil).File; file != "cc" || sharesMemory(file, two[1]) || sharesMemory(file, refs[1].Name) {
		t.Errorf("%q lies in what was handed in", file)
	}
}

// TestBuildKeepsNothing: what was built ahead counts for nothing.
func TestBuildKeepsNothing(t *testing.T) {
	l := plainSources()
	first := impl.Build(l, []string{"m0"}, 0, nil)
	impl.Build(l, []string{"m1"}, 0, first.Cache)
	isBuilt(t, "without the cache", l, []string{"m0"}, 0, nil, first)
	isBuilt(t, "behind another", l, []string{"m1"}, 0, first.Cache, impl.BuildOut{Words: []int64{11}, Cache: entriesOf(l, "m0", "m1"), Made: 1})
}
