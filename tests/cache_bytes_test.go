package tests

import (
	"fmt"
	"math"
	"strings"
	"testing"

	"loop.example/g00367/impl"
)

// handBytes: objects and their bytes by hand.
var handBytes = []struct {
	object impl.Object
	bytes  string
}{
	{impl.Object{}, "\x00\x00\x00"},
	{impl.Object{Words: []int64{0}}, "\x02\x00\x00\x00"},
	{impl.Object{Words: []int64{1, 63, 64, 65535}}, "\x08\x02\x7e\x80\x01\xfe\xff\x07\x00\x00"},
	{impl.Object{Syms: []impl.Sym{{Name: "a"}}}, "\x00\x02\x02a\x00\x00\x00"},
	{impl.Object{Syms: []impl.Sym{{Name: "a", Global: true}, {Name: "b_1"}}}, "\x00\x04\x02a\x00\x02\x06b_1\x00\x00\x00"},
	{impl.Object{Words: []int64{5}, Syms: []impl.Sym{{Name: "end", At: 1, Global: true}}}, "\x02\x0a\x02\x06end\x02\x02\x00"},
	{impl.Object{Words: []int64{5}, Refs: []impl.Ref{{Name: "a"}}}, "\x02\x0a\x00\x02\x00\x02a\x00\x00"},
	{impl.Object{Words: []int64{5}, Refs: []impl.Ref{{Name: "a", Jump: true}}}, "\x02\x0a\x00\x02\x00\x02a\x00\x02"},
	{
		impl.Object{Words: []int64{5, 6, 7}, Refs: []impl.Ref{{At: 1, Name: "bc", Add: -1, Jump: true}, {At: 2, Name: "a", Add: 32767}}},
		"\x06\x0a\x0c\x0e\x00\x04\x02\x04bc\x01\x02\x04\x02a\xfe\xff\x03\x00",
	},
	{
		impl.Object{Words: []int64{0x3c00, 0}, Syms: []impl.Sym{{Name: "x", At: 2}}, Refs: []impl.Ref{{Name: "x", Jump: true}, {At: 1, Name: "y", Add: -32767}}},
		"\x04\x80\xf0\x01\x00\x02\x02x\x04\x00\x04\x00\x02x\x00\x02\x02\x02y\xfd\xff\x03\x00",
	},
}

// keepsPromise9: an object comes back from its bytes.
func keepsPromise9(t *testing.T, o impl.Object) {
	t.Helper()
	bytes := impl.ObjectBytes(o)
	same(t, fmt.Sprintf("bytes of %+v", o), bytes, bytesMeant(o))
	same(t, fmt.Sprintf("back from %q", bytes), impl.ObjectRead(bytes), impl.ObjectOut{Object: o})
}

// isReadAs: what is read is what the second reader reads, and told by just these bytes.
func isReadAs(t *testing.T, text string) impl.ObjectOut {
	t.Helper()
	got := impl.ObjectRead(text)
	same(t, fmt.Sprintf("%q", text), got, readMeant(text))
	if got.Code == impl.OK {
		same(t, fmt.Sprintf("bytes of what is read of %q", text), impl.ObjectBytes(got.Object), text)
	}
	return got
}

func isNoObject(t *testing.T, what string, text string) {
	t.Helper()
	same(t, fmt.Sprintf("%s: %q", what, text), isReadAs(t, text), impl.ObjectOut{Code: impl.ErrSyntax})
}

func TestPromise9Hand(t *testing.T) {
	for _, h := range handBytes {
		same(t, fmt.Sprintf("%+v", h.object), impl.ObjectBytes(h.object), h.bytes)
		keepsPromise9(t, h.object)
	}
	empty := impl.Object{Words: []int64{}, Syms: []impl.Sym{}, Refs: []impl.Ref{}}
	same(t, "empty lists", impl.ObjectBytes(empty), "\x00\x00\x00")
}

func TestPromise9Edges(t *testing.T) {
	for _, n := range wordEdges {
		keepsPromise9(t, impl.Object{Words: []int64{n}})
		keepsPromise9(t, impl.Object{Words: []int64{1, n, 2}})
	}
	for _, name := range rightNames {
		keepsPromise9(t, impl.Object{Syms: []impl.Sym{local(name, 0)}})
		keepsPromise9(t, impl.Object{Words: []int64{7}, Refs: []impl.Ref{{Name: name, Jump: true}}})
	}
	for _, add := range []int64{0, 1, -1, 2, 31, 32, -32, -33, 63, 64, -64, -65, 8191, 8192, -8192, -8193, 32766, 32767, -32766, -32767} {
		for _, jump := range []bool{false, true} {
			keepsPromise9(t, impl.Object{Words: []int64{7, 8}, Refs: []impl.Ref{{At: 1, Name: "a", Add: add, Jump: jump}}})
		}
	}
	for _, many := range []int{1, 63, 64, 65, impl.MaxWords - 1, impl.MaxWords} {
		o := ones(many)
		keepsPromise9(t, o)
		o.Syms = []impl.Sym{global("a", int64(many)), local("b", int64(many-1)), local("c", 0)}
		keepsPromise9(t, o)
		o.Refs = []impl.Ref{{At: int64(many - 1), Name: "a"}}
		keepsPromise9(t, o)
	}
}

func TestPromise9Random(t *testing.T) {
	d := dice{9}
	names := []string{"a", "b", "b_1", "c", "dd", "e23456789012345678_0"}
	for range 4000 {
		keepsPromise9(t, d.object(d.below(40), names))
	}
	for range 400 {
		out := impl.Assemble(d.rightSources(), "s000")
		if out.Code != impl.OK {
			t.Fatalf("%+v", out)
		}
		keepsPromise9(t, out.Object)
	}
}

// namesOfBytes: Names of Syms at 0, so that an object of these alone has so many bytes (of some thousand).
func namesOfBytes(many int) []string {
	// There are two bytes that tell how many Syms there are, and one each for no Words and no Refs.
	left := many - 4
	var bytes []int
	for left >= 2*23 {
		bytes = append(bytes, 23)
		left -= 23
	}
	bytes = append(bytes, left/2, left-left/2)
	var names []string
	for i, each := range bytes {
		// A Sym has three bytes beside its Name.
		names = append(names, fmt.Sprintf("s%04d", i)+strings.Repeat("x", each-3-5))
	}
	return names
}

func symsOfBytes(many int) impl.Object {
	var o impl.Object
	for _, name := range namesOfBytes(many) {
		o.Syms = append(o.Syms, local(name, 0))
	}
	return o
}

func TestObjectBytesLimits(t *testing.T) {
	for many := impl.MaxBytes - 30; many <= impl.MaxBytes+30; many++ {
		o := symsOfBytes(many)
		same(t, "how many bytes", len(bytesMeant(o)), many)
		same(t, "right", impl.ObjectRight(o), true)
		if many <= impl.MaxBytes {
			keepsPromise9(t, o)
			continue
		}
		same(t, fmt.Sprintf("%d bytes", many), impl.ObjectBytes(o), "")
		same(t, fmt.Sprintf("%d bytes, read", many), impl.ObjectRead(bytesMeant(o)), impl.ObjectOut{Code: impl.ErrSize})
	}
	refs := ones(impl.MaxWords)
	for at := range refs.Words {
		refs.Refs = append(refs.Refs, impl.Ref{At: int64(at), Name: "a_name_of_20_bytes__", Add: -32767})
	}
	same(t, "many Refs", impl.ObjectBytes(refs), "")
	refs.Refs = refs.Refs[20:]
	keepsPromise9(t, refs)
}

func TestObjectBytesOfWrongOnes(t *testing.T) {
	for _, o := range wrongObjects() {
		same(t, fmt.Sprintf("%+v", o), impl.ObjectBytes(o), "")
		isNoObject(t, "not right", bytesMeant(o))
	}
	for _, n := range noWords {
		same(t, "no word", impl.ObjectBytes(impl.Object{Words: []int64{n}}), "")
		isNoObject(t, "no word", bytesMeant(impl.Object{Words: []int64{n}}))
	}
	for _, name := range append([]string{""}, wrongNames...) {
		same(t, "no name", impl.ObjectBytes(impl.Object{Syms: []impl.Sym{local(name, 0)}}), "")
		isNoObject(t, "no name of a Sym", bytesMeant(impl.Object{Syms: []impl.Sym{local(name, 0)}}))
		isNoObject(t, "no name of a Ref", bytesMeant(impl.Object{Words: []int64{7}, Refs: []impl.Ref{{Name: name}}}))
	}
}

// TestObjectReadNear: each text that is one byte beside an object's, also those that end too early or go on.
func TestObjectReadNear(t *testing.T) {
	read := 0
	for _, h := range handBytes {
		for _, text := range near(h.bytes) {
			if isReadAs(t, text).Code == impl.OK {
				read++
			}
		}
	}
	if read < 1000 {
		t.Errorf("just %d were read", read)
	}
}

func TestObjectReadEnds(t *testing.T) {
	d := dice{99}
	names := []string{"a", "b", "b_1", "c", "dd"}
	for range 200 {
		bytes := bytesMeant(d.object(d.below(30), names))
		for many := range len(bytes) {
			isNoObject(t, "ends too early", bytes[:many])
		}
		for b := range 256 {
			isNoObject(t, "a byte behind", bytes+string([]byte{byte(b)}))
		}
		isNoObject(t, "twice", bytes+bytes)
	}
	isNoObject(t, "the empty text", "")
	isNoObject(t, "of nothing, and one more row", "\x00\x00\x00\x00")
}

// TestObjectReadNumbers: in the place of each number of an object's bytes one that is written so, or in more bytes.
func TestObjectReadNumbers(t *testing.T) {
	// Its numbers are marked by strokes: words, a Sym, and a Ref.
	parts := strings.Split("|1|5|1|1|a|1|1|1|0|1|b|-2|1", "|")[1:]
	texts := map[string]bool{"a": true, "b": true}
	put := func(at int, other string) string {
		out := ""
		for i, part := range parts {
			switch {
			case i == at:
				out += other
			case texts[part]:
				out += part
			default:
				var n int64
				fmt.Sscan(part, &n)
				out += putMeant(n)
			}
		}
		return out
	}
	same(t, "as it is", impl.ObjectRead(put(-1, "")), impl.ObjectOut{Object: impl.Object{
		Words: []int64{5}, Syms: []impl.Sym{{Name: "a", At: 1, Global: true}}, Refs: []impl.Ref{{Name: "b", Add: -2, Jump: true}},
	}})
	numbers := []int64{-1, -2, -3, 0, 1, 2, 3, 5, 63, 64, 300, 301, 32767, 32768, -32767, -32768, 65535, 65536, 1 << 31, 1 << 32, 1<<32 + 1, math.MaxInt64, math.MinInt64, math.MinInt64 + 1}
	for at, part := range parts {
		for _, n := range numbers {
			isReadAs(t, put(at, putMeant(n)))
		}
		if !texts[part] {
			var n int64
			fmt.Sscan(part, &n)
			bytes := []byte(putMeant(n))
			bytes[len(bytes)-1] += 128
			isNoObject(t, "more bytes than it needs", put(at, string(bytes)+"\x00"))
			isNoObject(t, "many more bytes than it needs", put(at, string(bytes)+strings.Repeat("\x80", 8)+"\x00"))
			isNoObject(t, "too many bytes", put(at, string(bytes)+strings.Repeat("\x80", 12)+"\x00"))
		}
	}
	for _, n := range []int64{-1, -2, math.MinInt64, 2, 3, 255, 1 << 32, math.MaxInt64} {
		isNoObject(t, "Words of which there are so many", put(0, putMeant(n)))
		isNoObject(t, "Syms of which there are so many", put(2, putMeant(n)))
		isNoObject(t, "Refs of which there are so many", put(7, putMeant(n)))
		isNoObject(t, "Global so", put(6, putMeant(n)))
		isNoObject(t, "Jump so", put(12, putMeant(n)))
	}
	for _, n := range []int64{-1, math.MinInt64, math.MaxInt64, 5, 300} {
		isNoObject(t, "none, and so many Words", putMeant(n)+"\x00\x00")
		isNoObject(t, "none, and so many Syms", "\x00"+putMeant(n)+"\x00")
		isNoObject(t, "none, and so many Refs", "\x00\x00"+putMeant(n))
	}
}

func TestObjectReadLimits(t *testing.T) {
	for _, many := range []int{impl.MaxBytes - 1, impl.MaxBytes} {
		isNoObject(t, "nothing but noughts", strings.Repeat("\x00", many))
		isNoObject(t, "no numbers", strings.Repeat("\xff", many))
		isNoObject(t, "many Words", putMeant(math.MaxInt64)+strings.Repeat("\x02", many-10))
	}
	for _, text := range []string{strings.Repeat("\x00", impl.MaxBytes+1), long(2 * impl.MaxBytes)} {
		same(t, "more than MaxBytes", impl.ObjectRead(text), impl.ObjectOut{Code: impl.ErrSize})
	}
}

func TestObjectReadRandom(t *testing.T) {
	d := dice{999}
	names := []string{"a", "b", "c"}
	read := 0
	for range 30000 {
		bytes := []byte(bytesMeant(d.object(d.below(4), names)))
		for range 1 + d.below(2) {
			bytes[d.below(len(bytes))] = byte(d.below(8))
		}
		if isReadAs(t, string(bytes)).Code == impl.OK {
			read++
		}
		isReadAs(t, d.text(d.below(12)))
	}
	if read < 3000 {
		t.Errorf("just %d were read", read)
	}
}

func TestObjectBytesNewMemory(t *testing.T) {
	object := func() impl.Object {
		return impl.Object{Words: []int64{5, 6}, Syms: []impl.Sym{global("aa", 1), local("bb", 2)}, Refs: []impl.Ref{{Name: "cc"}, {At: 1, Name: "aa"}}}
	}
	o := object()
	bytes := impl.ObjectBytes(o)
	same(t, "handed in", o, object())
	first, second := impl.ObjectRead(bytes).Object, impl.ObjectRead(bytes).Object
	for _, name := range []string{first.Syms[0].Name, first.Syms[1].Name, first.Refs[0].Name, first.Refs[1].Name} {
		if sharesMemory(name, bytes) {
			t.Errorf("%s lies in what was handed in", name)
		}
	}
	if sharesMemory(first.Syms[0].Name, first.Refs[1].Name) {
		t.Error("two lists of one answer share a Name")
	}
	first.Words[0], first.Syms[0].At, first.Refs[0].Add = 9, 9, 9
	same(t, "another answer", second, object())
	same(t, "again", impl.ObjectRead(bytes).Object, object())
}
