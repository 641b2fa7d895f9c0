package tests

import (
	"fmt"
	"slices"
	"testing"

	"loop.example/g00367/impl"
)

// symMeant is a Sym of some object, and its address.
type symMeant struct {
	object  int
	sym     impl.Sym
	address int64
}

// symsMeant: all Syms, object by object.
func symsMeant(l []impl.Object, base int64) []symMeant {
	var out []symMeant
	ahead := 0
	for n, o := range l {
		for _, s := range o.Syms {
			out = append(out, symMeant{n, s, base + 2*(int64(ahead)+s.At)})
		}
		ahead += len(o.Words)
	}
	return out
}

// targetMeant: the target of a Ref of that object, or -1, if there is no Sym of its Name.
func targetMeant(syms []symMeant, object int, r impl.Ref) int64 {
	own := slices.IndexFunc(syms, func(s symMeant) bool { return s.object == object && s.sym.Name == r.Name })
	if own < 0 {
		own = slices.IndexFunc(syms, func(s symMeant) bool { return s.sym.Global && s.sym.Name == r.Name })
	}
	if own < 0 {
		return -1
	}
	return (syms[own].address + r.Add + 3*65536) % 65536
}

// twiceMeant: the first Global Sym that an object ahead has, too.
func twiceMeant(l []impl.Object) (impl.ImageOut, bool) {
	seen := map[string]bool{}
	for n, o := range l {
		for k, s := range o.Syms {
			if s.Global && seen[s.Name] {
				return impl.ImageOut{At: int64(n), Ref: int64(k), Code: impl.ErrThere}, true
			}
			seen[s.Name] = seen[s.Name] || s.Global
		}
	}
	return impl.ImageOut{}, false
}

// linkedMeant links in another way than the program does, by the document's words; l are at most MaxList.
func linkedMeant(l []impl.Object, base int64) impl.ImageOut {
	if len(l) == 0 || len(l) > 10 || slices.ContainsFunc(l, func(o impl.Object) bool { return !impl.ObjectRight(o) }) {
		return impl.ImageOut{Code: impl.ErrForm}
	}
	if base < 0 || base > 65534 || base%2 == 1 {
		return impl.ImageOut{Code: impl.ErrForm}
	}
	many := int64(0)
	for _, o := range l {
		many += int64(len(o.Words))
	}
	if many > 300 || base+2*many > 65536 {
		return impl.ImageOut{Code: impl.ErrFull}
	}
	if out, twice := twiceMeant(l); twice {
		return out
	}
	syms := symsMeant(l, base)
	var out []int64
	for n, o := range l {
		words := slices.Clone(o.Words)
		for k, r := range o.Refs {
			word, code := wordLinked(words[r.At], r, targetMeant(syms, n, r), base+2*(int64(len(out))+r.At))
			if code != impl.OK {
				return impl.ImageOut{At: int64(n), Ref: int64(k), Code: code}
			}
			words[r.At] = word
		}
		out = append(out, words...)
	}
	return impl.ImageOut{Words: out}
}

// wordLinked: what a word of that address is by a Ref of that target.
func wordLinked(word int64, r impl.Ref, target int64, address int64) (int64, int64) {
	if target < 0 {
		return 0, impl.ErrNone
	}
	if !r.Jump {
		return target, impl.OK
	}
	for jump := int64(-512); jump <= 511; jump++ {
		if address+2+2*jump == target {
			return (word + (jump+1024)%1024) % 65536, impl.OK
		}
	}
	return 0, impl.ErrRange
}

// object: a right one of so many words at random, Syms of some of these names, and Refs to these.
func (d *dice) object(many int, names []string) impl.Object {
	var o impl.Object
	for range many {
		o.Words = append(o.Words, int64(d.below(65536)))
	}
	for _, name := range names {
		if d.below(3) == 0 {
			o.Syms = append(o.Syms, impl.Sym{Name: name, At: int64(d.below(many + 1)), Global: d.below(4) == 0})
		}
	}
	for at := range many {
		if d.below(6) == 0 {
			add := int64(2*d.below(20) - 20)
			if d.below(12) == 0 {
				add = int64(d.below(65535) - 32767)
			}
			o.Refs = append(o.Refs, impl.Ref{At: int64(at), Name: d.pick(names), Add: add, Jump: d.below(2) == 0})
		}
	}
	return o
}

// TestLinkRandom: objects at random, with faults among them, are linked as the document's words say.
func TestLinkRandom(t *testing.T) {
	d := dice{6}
	names := []string{"a", "b", "b_1", "c", "dd"}
	seen := map[int64]int{}
	for range 40000 {
		var l []impl.Object
		for range d.below(12) {
			l = append(l, d.object(d.below(8), names))
		}
		base := int64(2 * d.below(32768))
		if d.below(10) == 0 {
			base = int64(65500 + d.below(40))
		}
		got := impl.Link(l, base)
		same(t, fmt.Sprintf("base %d: %+v", base, l), got, linkedMeant(l, base))
		seen[got.Code]++
	}
	for _, code := range []int64{impl.OK, impl.ErrForm, impl.ErrFull, impl.ErrThere, impl.ErrNone, impl.ErrRange} {
		if seen[code] < 200 {
			t.Errorf("code %d was told %d times", code, seen[code])
		}
	}
}
