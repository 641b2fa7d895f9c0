package tests

import (
	"fmt"
	"slices"
	"strings"
	"testing"

	"loop.example/g00367/impl"
)

// textOf: the Text of the source of that Name, and is there one?
func textOf(s impl.Shop, name string) (string, bool) {
	for _, source := range impl.StateOf(s.Log).Sources {
		if source.Name == name {
			return source.Text, true
		}
	}
	return "", false
}

// without: the sources but that of this Name.
func without(l []impl.Source, name string) []impl.Source {
	return slices.DeleteFunc(slices.Clone(l), func(s impl.Source) bool { return s.Name == name })
}

// isOnlyOther: is the State of both the same but for that source, and where it ends?
func isOnlyOther(t *testing.T, what string, before, after impl.Shop, name string) {
	t.Helper()
	was, is := impl.StateOf(before.Log), impl.StateOf(after.Log)
	same(t, what+": the others", fmt.Sprint(without(is.Sources, name)), fmt.Sprint(without(was.Sources, name)))
	same(t, what+": the image", []any{is.Image, is.Builds, is.At}, []any{was.Image, was.Builds, int64(len(after.Log))})
	same(t, what+": right", []any{impl.ShopRight(after), impl.SourcesRight(is.Sources), after.Synced}, []any{true, true, before.Synced})
	if !strings.HasPrefix(after.Log, before.Log) {
		t.Errorf("%s: the Log is not as it was", what)
	}
}

// keepsEdited: what is edited has that text; of a Shop that has room for it.
func keepsEdited(t *testing.T, s impl.Shop, name, text string) impl.Shop {
	t.Helper()
	what := fmt.Sprintf("%q edited to %q", name, text)
	out := isEdited(t, what, s, name, text)
	same(t, what, out.Code, int64(impl.OK))
	got, there := textOf(out.Shop, name)
	same(t, what, []any{got, there}, []any{text, true})
	isOnlyOther(t, what, s, out.Shop, name)
	return out.Shop
}

// keepsRemoved: what is removed is gone.
func keepsRemoved(t *testing.T, s impl.Shop, name string) impl.Shop {
	t.Helper()
	what := fmt.Sprintf("%q removed", name)
	out := isRemoved(t, what, s, name)
	same(t, what, out.Code, int64(impl.OK))
	_, there := textOf(out.Shop, name)
	same(t, what, there, false)
	isOnlyOther(t, what, s, out.Shop, name)
	same(t, what+" again", isRemoved(t, what, out.Shop, name), told(impl.ErrNone))
	return out.Shop
}

// keepsPublished: what is published is the image of its sources, and nothing else is changed; or the fault of Build is told.
func keepsPublished(t *testing.T, s impl.Shop, mains []string, base int64) impl.Shop {
	t.Helper()
	what := fmt.Sprint(mains, base)
	was := impl.StateOf(s.Log)
	built := impl.Build(was.Sources, mains, base, nil)
	out := isPublished(t, what, s, mains, base)
	if built.Code != impl.OK {
		same(t, what, out, impl.ShopOut{Code: built.Code, File: built.File, Line: built.Line})
		return s
	}
	is := impl.StateOf(out.Shop.Log)
	same(t, what, is, impl.State{Sources: was.Sources, Image: impl.HexText(base, built.Words), Builds: was.Builds + 1, At: int64(len(out.Shop.Log))})
	same(t, what+" read", impl.HexRead(is.Image).Words, built.Words)
	same(t, what+": right", []any{impl.ShopRight(out.Shop), out.Shop.Synced}, []any{true, s.Synced})
	return out.Shop
}

// shopsToPromise: with none, one and 20 sources, and images and what was removed among them.
func shopsToPromise() []impl.Shop {
	return []impl.Shop{
		{}, shopOf(edits("a", "reti")), shopOf(edits("a", "reti"), removes("a")), shopOf(publishes(oneWord), edits("s005", "x")), shopOf(threeKinds()...),
		fullShop(), {Log: fullShop().Log, Synced: 77}, shopOf(publishes(hexEnd), fullShop().Log, publishes(oneWord)),
	}
}

func TestPromise11Edits(t *testing.T) {
	for _, s := range shopsToPromise() {
		for _, name := range []string{"a", "s005", "s019", "z"} {
			_, there := textOf(s, name)
			if many := len(impl.StateOf(s.Log).Sources); many == 20 && !there {
				same(t, name, isEdited(t, name, s, name, "x"), told(impl.ErrFull))
				continue
			}
			anew := keepsEdited(t, s, name, ".word 1")
			again := keepsEdited(t, anew, name, "\x00\xff; any text")
			gone := keepsRemoved(t, keepsEdited(t, again, name, ""), name)
			keepsPublished(t, keepsEdited(t, gone, name, ".word 2\n"), []string{name}, 32)
			keepsPublished(t, gone, []string{name}, 32)
		}
	}
}

func TestPromise11Published(t *testing.T) {
	var s impl.Shop
	for _, source := range promised() {
		s = keepsEdited(t, s, source.Name, source.Text)
	}
	s = impl.ShopSync(s)
	for i, mains := range promisedMains {
		for _, base := range []int64{0, 4096, 65534, 7, 65000} {
			s = keepsPublished(t, s, mains, base)
		}
		if len(s.Log) > 6000 {
			t.Fatal("there is no room left")
		}
		s = keepsEdited(t, s, "side", fmt.Sprintf(".global table\n.global far\ntable: .word %d\nfar:", i))
	}
	s = keepsRemoved(t, s, "side")
	keepsPublished(t, keepsPublished(t, s, []string{"side"}, 0), []string{"main"}, 0)
}

// endsOf: behind which bytes of it a log is gone through to its end.
func endsOf(log string) []int64 {
	ends := []int64{0}
	for at := range int64(len(log)) {
		if s := log[:at+1]; impl.StateOf(s).At == at+1 {
			ends = append(ends, at+1)
		}
	}
	return ends
}

// keepsPromise12: a crash leaves what there was at some record that ends no farther ahead than the last one that was synced.
func keepsPromise12(t *testing.T, s impl.Shop, ends []int64, keep int64) {
	t.Helper()
	what := fmt.Sprint(s.Synced, " synced, kept ", keep)
	crashed := isCrashed(t, what, s, keep)
	got := isRecovered(t, what, crashed)
	number, is := slices.BinarySearch(ends, int64(len(got.Log)))
	if !is || !strings.HasPrefix(s.Log, got.Log) {
		t.Fatalf("%s: not what there was behind a record: %d bytes", what, len(got.Log))
	}
	if number+1 < len(ends) && ends[number+1] <= s.Synced {
		t.Errorf("%s: %d bytes, so that what was synced is lost", what, len(got.Log))
	}
	same(t, what+": the State", impl.StateOf(got.Log), impl.StateOf(s.Log[:ends[number]]))
	same(t, what+": right", []any{impl.ShopRight(got), got.Synced}, []any{true, int64(len(got.Log))})
	same(t, what+": once more", impl.ShopRecover(got), got)
	same(t, what+": another crash", impl.ShopRecover(impl.ShopCrash(got, 0)), got)
}

func TestPromise12Hand(t *testing.T) {
	log := strings.Join(threeKinds(), "")
	many := int64(len(log))
	ends := endsOf(log)
	same(t, "as many as records, and nothing", len(ends), len(threeKinds())+1)
	for _, synced := range ends {
		for _, keep := range keeps(many - synced) {
			keepsPromise12(t, impl.Shop{Log: log, Synced: synced}, ends, keep)
		}
	}
	for synced := range many + 1 {
		for _, keep := range []int64{-1, 0, 1, 5, 20, many} {
			keepsPromise12(t, impl.Shop{Log: log, Synced: synced}, ends, keep)
		}
	}
}

// TestPromise12Synced: what is synced loses nothing by a crash.
func TestPromise12Synced(t *testing.T) {
	for _, s := range append(shopsToPromise(), shopWith(promised()), impl.Shop{Log: padded("", impl.MaxBytes), Synced: 9}) {
		synced := isSynced(t, "synced", s)
		for _, keep := range keeps(3) {
			same(t, fmt.Sprint("kept ", keep), isCrashed(t, "crashed", synced, keep), synced)
			same(t, fmt.Sprint("recovered, kept ", keep), impl.ShopRecover(impl.ShopCrash(synced, keep)), synced)
		}
	}
}

// TestPromise12Built: as a workshop is used: edited, published, synced now and then, and crashed at each byte.
func TestPromise12Built(t *testing.T) {
	var s impl.Shop
	var shops []impl.Shop
	for i, source := range promised() {
		s = keepsEdited(t, s, source.Name, source.Text)
		shops = append(shops, s)
		s = keepsPublished(t, s, []string{source.Name}, int64(64*i))
		shops = append(shops, s)
		if i%2 == 1 {
			s = isSynced(t, "now and then", s)
			shops = append(shops, s)
		}
	}
	shops = append(shops, keepsPublished(t, s, []string{"main", "side"}, 512), keepsRemoved(t, s, "main"))
	for _, s := range shops {
		ends := endsOf(s.Log)
		for _, keep := range keeps(int64(len(s.Log)) - s.Synced) {
			keepsPromise12(t, s, ends, keep)
		}
	}
}

// shopStep does one thing to the Shop at random, and tells what came of it, and its code.
func (d *dice) shopStep(t *testing.T, s impl.Shop) (impl.Shop, int64) {
	names := []string{"bad", "main", "part", "side", "want", "none", "no name", ""}
	var out impl.ShopOut
	switch d.below(12) {
	case 0, 1, 2:
		out = isEdited(t, "random", s, d.pick(names), promised()[d.below(5)].Text)
	case 3:
		out = isEdited(t, "random", s, fmt.Sprintf("m%d", d.below(40)), d.text(d.below(200)))
	case 4, 5:
		out = isRemoved(t, "random", s, d.pick(names))
	case 6, 7, 8:
		out = isPublished(t, "random", s, promisedMains[d.below(len(promisedMains))], int64(d.below(3000)*2+d.below(12)/11))
	case 9:
		return isSynced(t, "random", s), impl.OK
	case 10:
		crashed := isCrashed(t, "random", s, int64(d.below(2000)-20))
		if d.below(4) == 0 {
			return crashed, impl.OK
		}
		return isRecovered(t, "random", crashed), impl.OK
	default:
		return isRecovered(t, "random", s), impl.OK
	}
	if out.Code == impl.OK {
		return out.Shop, impl.OK
	}
	return s, out.Code
}

// TestShopRandom: a Shop that goes on at random for long, held against the second workshop step by step.
func TestShopRandom(t *testing.T) {
	d := dice{12}
	seen := map[int64]int{}
	for range 40 {
		s := impl.Shop{}
		for range 250 {
			after, code := d.shopStep(t, s)
			seen[code]++
			same(t, "right", impl.ShopRight(after), rightMeant(after))
			s = after
		}
	}
	for _, code := range []int64{impl.OK, impl.ErrForm, impl.ErrNone, impl.ErrSyntax, impl.ErrFull} {
		if seen[code] < 50 {
			t.Errorf("code %d was told %d times", code, seen[code])
		}
	}
}
