package tests

import (
	"encoding/binary"
	"hash/crc32"
	"hash/fnv"
	"regexp"
	"slices"
	"testing"

	"loop.example/g00367/impl"
)

var nameAlone = regexp.MustCompile(`\A` + nameForm + `\z`)

// digestMeant: of a text of at most MaxBytes bytes.
func digestMeant(text string) string {
	h := fnv.New64a()
	h.Write([]byte(text))
	out := h.Sum(nil)
	h.Write([]byte{1})
	return string(h.Sum(out))
}

func putMeant(n int64) string {
	return string(binary.AppendVarint(nil, n))
}

func putTextMeant(t string) string {
	return putMeant(int64(len(t))) + t
}

func putFlagMeant(flag bool) string {
	if flag {
		return "\x02"
	}
	return "\x00"
}

// keyMeant: of right sources, and the Name of one.
func keyMeant(l []impl.Source, name string) string {
	row := ""
	for _, met := range closureMeant(l, name) {
		for _, s := range l {
			if s.Name == met {
				row += putTextMeant(met) + putTextMeant(digestMeant(s.Text))
			}
		}
	}
	return digestMeant(row)
}

// bytesMeant: of any object, right or not, of however many bytes.
func bytesMeant(o impl.Object) string {
	out := putMeant(int64(len(o.Words)))
	for _, n := range o.Words {
		out += putMeant(n)
	}
	out += putMeant(int64(len(o.Syms)))
	for _, s := range o.Syms {
		out += putTextMeant(s.Name) + putMeant(s.At) + putFlagMeant(s.Global)
	}
	out += putMeant(int64(len(o.Refs)))
	for _, r := range o.Refs {
		out += putMeant(r.At) + putTextMeant(r.Name) + putMeant(r.Add) + putFlagMeant(r.Jump)
	}
	return out
}

// rowTaker takes numbers and texts off a row's begin, and those that are not there as 0 and empty.
type rowTaker struct {
	left []byte
}

func (k *rowTaker) num() int64 {
	n, many := binary.Varint(k.left)
	k.left = k.left[max(0, many):]
	return n
}

// many: how many things there may be in what is left at most is as many as it has bytes.
func (k *rowTaker) many() int {
	return int(max(0, min(k.num(), int64(len(k.left)))))
}

func (k *rowTaker) text() string {
	many := k.many()
	t := string(k.left[:many])
	k.left = k.left[many:]
	return t
}

// readMeant takes some object off the text, and asks if its bytes are that text.
func readMeant(text string) impl.ObjectOut {
	k := rowTaker{[]byte(text)}
	var o impl.Object
	for range k.many() {
		o.Words = append(o.Words, k.num())
	}
	for range k.many() {
		o.Syms = append(o.Syms, impl.Sym{Name: k.text(), At: k.num(), Global: k.num() == 1})
	}
	for range k.many() {
		o.Refs = append(o.Refs, impl.Ref{At: k.num(), Name: k.text(), Add: k.num(), Jump: k.num() == 1})
	}
	if !impl.ObjectRight(o) || bytesMeant(o) != text {
		return impl.ObjectOut{Code: impl.ErrSyntax}
	}
	return impl.ObjectOut{Object: o}
}

// wholeMeant: the object that an Entry's Text tells, if it is sealed and one's.
func wholeMeant(text string) (impl.Object, bool) {
	many := len(text) - 4
	if many < 0 || binary.LittleEndian.Uint32([]byte(text[many:])) != crc32.ChecksumIEEE([]byte(text[:many])) {
		return impl.Object{}, false
	}
	out := readMeant(text[:many])
	return out.Object, out.Code == impl.OK
}

func cacheIsRight(cache []impl.Entry) bool {
	seen := map[string]bool{}
	for _, e := range cache {
		if seen[e.Key] || len(e.Key) != 16 || len(e.Text) > 8000 {
			return false
		}
		seen[e.Key] = true
	}
	return len(cache) <= 8
}

func mainsAreRight(mains []string) bool {
	seen := map[string]bool{}
	for _, main := range mains {
		if seen[main] || !nameAlone.MatchString(main) {
			return false
		}
		seen[main] = true
	}
	return len(mains) >= 1 && len(mains) <= 6
}

// aheadMeant: what is refused ahead of the mains' objects.
func aheadMeant(l []impl.Source, mains []string, base int64, cache []impl.Entry) impl.BuildOut {
	if max(len(l), len(mains), len(cache)) > 400 {
		return impl.BuildOut{Code: impl.ErrSize}
	}
	if !impl.SourcesRight(l) || !cacheIsRight(cache) || !mainsAreRight(mains) || base < 0 || base > 65534 || base%2 == 1 {
		return impl.BuildOut{Code: impl.ErrForm}
	}
	for _, main := range mains {
		if !slices.ContainsFunc(l, func(s impl.Source) bool { return s.Name == main }) {
			return impl.BuildOut{File: main, Code: impl.ErrNone}
		}
	}
	return impl.BuildOut{}
}

// builtMeant builds in another way than the program does, by the document's words.
func builtMeant(l []impl.Source, mains []string, base int64, cache []impl.Entry) impl.BuildOut {
	if out := aheadMeant(l, mains, base, cache); out.Code != impl.OK {
		return out
	}
	var built impl.BuildOut
	var objects []impl.Object
	left := slices.Clone(cache)
	for _, main := range mains {
		key := keyMeant(l, main)
		at := slices.IndexFunc(left, func(e impl.Entry) bool { return e.Key == key })
		if at >= 0 {
			if o, whole := wholeMeant(left[at].Text); whole {
				objects = append(objects, o)
				continue
			}
		}
		out := assembledMeant(l, main)
		if out.Code != impl.OK {
			return impl.BuildOut{File: out.File, Line: out.Line, Code: out.Code}
		}
		objects = append(objects, out.Object)
		built.Made++
		if at >= 0 {
			left = slices.Delete(left, at, at+1)
		}
		bytes := bytesMeant(out.Object)
		if len(bytes) > 7996 {
			continue
		}
		if len(left) == 8 {
			left = left[1:]
		}
		left = append(left, impl.Entry{Key: key, Text: sealModel(bytes)})
	}
	image := linkedMeant(objects, base)
	if image.Code != impl.OK {
		return impl.BuildOut{File: mains[image.At], Code: image.Code}
	}
	built.Words = image.Words
	if len(left) > 0 {
		built.Cache = left
	}
	return built
}

// isBuiltAsMeant asks the program, and the second builder.
func isBuiltAsMeant(t *testing.T, what string, l []impl.Source, mains []string, base int64, cache []impl.Entry) impl.BuildOut {
	t.Helper()
	sources, names, entries := slices.Clone(l), slices.Clone(mains), slices.Clone(cache)
	got := impl.Build(l, mains, base, cache)
	same(t, what, got, builtMeant(l, mains, base, cache))
	if !slices.Equal(l, sources) || !slices.Equal(mains, names) || !slices.Equal(cache, entries) {
		t.Errorf("%s: what was handed in is not as it was", what)
	}
	if !impl.CacheRight(got.Cache) {
		t.Errorf("%s: the cache is not right: %q", what, got.Cache)
	}
	return got
}

// isBuilt asks the program, and the second builder, and holds both against what is wanted.
func isBuilt(t *testing.T, what string, l []impl.Source, mains []string, base int64, cache []impl.Entry, want impl.BuildOut) {
	t.Helper()
	same(t, what, isBuiltAsMeant(t, what, l, mains, base, cache), want)
}
