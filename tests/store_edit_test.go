package tests

import (
	"fmt"
	"math"
	"strings"
	"testing"

	"loop.example/g00367/impl"
)

// wrongShops: those that no Edit, Remove or Publish takes; their Logs have the source a, where they tell any.
func wrongShops() map[string]impl.Shop {
	log := edits("a", ".word 5")
	many := int64(len(log))
	out := map[string]impl.Shop{
		"Synced below 0":             {Log: log, Synced: -1},
		"Synced far below 0":         {Log: log, Synced: math.MinInt64},
		"Synced beyond the Log":      {Log: log, Synced: many + 1},
		"Synced far beyond the Log":  {Log: log, Synced: math.MaxInt64},
		"Synced beyond an empty Log": {Synced: 1},
		"a Log that ends too early":  {Log: log[:many-1]},
		"a Log with a byte more":     {Log: log + "\x00"},
		"a Log of MaxBytes and more": {Log: padded(log, impl.MaxBytes+1)},
		"a Log of far more":          {Log: strings.Repeat(log, 1000)},
	}
	for what, no := range noRecords {
		out[what] = impl.Shop{Log: log + edits("b", "") + no}
	}
	return out
}

// fullShop: of 20 sources, s000 to s019.
func fullShop() impl.Shop {
	var s impl.Shop
	for _, source := range sourcesOf(20) {
		s.Log += edits(source.Name, ".word 1")
	}
	return s
}

// hugeName: a text of so many bytes that would be a name, if it weren't for these.
func hugeName(many int) string {
	return strings.Repeat("a", many)
}

func TestEditHand(t *testing.T) {
	s := impl.Shop{}
	rows := []struct{ name, text string }{{"b", "reti"}, {"a", ""}, {"b", "reti"}, {"abcdefghijklmnopqrst", "\x00\xff"}, {"b", ""}, {"a", long(500)}}
	log := ""
	for i, r := range rows {
		s.Synced = int64(i)
		log += edits(r.name, r.text)
		got := impl.Edit(s, r.name, r.text)
		same(t, r.name, got, impl.ShopOut{Shop: impl.Shop{Log: log, Synced: int64(i)}})
		isEdited(t, r.name, s, r.name, r.text)
		s = got.Shop
	}
	want := []impl.Source{{Name: "a", Text: long(500)}, {Name: "abcdefghijklmnopqrst", Text: "\x00\xff"}, {Name: "b"}}
	same(t, "told", impl.StateOf(s.Log), impl.State{Sources: want, At: int64(len(log))})
}

func TestEditForms(t *testing.T) {
	s := shopOf(edits("a", "x"))
	form, size := told(impl.ErrForm), told(impl.ErrSize)
	for _, name := range append([]string{"", hugeName(21), hugeName(8000)}, wrongNames...) {
		same(t, name, isEdited(t, name, s, name, "x"), form)
	}
	for _, name := range append([]string{"a", hugeName(20)}, rightNames...) {
		same(t, name, isEdited(t, name, s, name, "x").Code, int64(impl.OK))
	}
	for _, many := range []int{4001, 4002, 7999, 8000} {
		same(t, fmt.Sprint(many), isEdited(t, fmt.Sprint(many), s, "a", long(many)), form)
	}
	for _, many := range []int{0, 1, 3999, 4000} {
		got := isEdited(t, fmt.Sprint(many), s, "a", long(many))
		same(t, fmt.Sprint(many), got.Code, int64(impl.OK))
		same(t, fmt.Sprint(many), impl.StateOf(got.Shop.Log).Sources[0].Text, long(many))
	}
	same(t, "a text of more than MaxBytes", isEdited(t, "text", s, "a", long(8001)), size)
	same(t, "a name of more than MaxBytes", isEdited(t, "name", s, hugeName(8001), "x"), size)
	for what, wrong := range wrongShops() {
		same(t, what, isEdited(t, what, wrong, "a", "x"), form)
		same(t, what+", and no name", isEdited(t, what, wrong, "A", "x"), form)
		same(t, what+", and a text of 4001", isEdited(t, what, wrong, "a", long(4001)), form)
		same(t, what+", behind a text that is too long", isEdited(t, what, wrong, "a", long(8001)), size)
		same(t, what+", behind a name that is too long", isEdited(t, what, wrong, hugeName(8001), "x"), size)
	}
}

func TestEditFull(t *testing.T) {
	form, full := told(impl.ErrForm), told(impl.ErrFull)
	s := fullShop()
	for _, name := range []string{"a", "s0000", "s020", "t"} {
		same(t, name, isEdited(t, name, s, name, ""), full)
		same(t, name+", and a text of 4001", isEdited(t, name, s, name, long(4001)), form)
	}
	same(t, "no name", isEdited(t, "no name", s, "S", ""), form)
	for _, source := range sourcesOf(20) {
		same(t, source.Name, isEdited(t, source.Name, s, source.Name, "x").Code, int64(impl.OK))
	}
	nineteen := isRemoved(t, "one goes", s, "s007").Shop
	same(t, "the 20th", isEdited(t, "the 20th", nineteen, "t", "").Code, int64(impl.OK))
	same(t, "the 20th twice", isEdited(t, "twice", isEdited(t, "once", nineteen, "t", "").Shop, "u", ""), full)
}

// TestRoom: a Log that would have just MaxBytes bytes, and one more, of each of the three.
func TestRoom(t *testing.T) {
	ahead := edits("a", ".word 5") + edits("c", "wrong")
	mains := []string{"a"}
	rows := []struct {
		what   string
		record string
		do     func(s impl.Shop) impl.ShopOut
	}{
		{"edit", edits("b", long(90)), func(s impl.Shop) impl.ShopOut { return isEdited(t, "edit", s, "b", long(90)) }},
		{"edit again", edits("a", ""), func(s impl.Shop) impl.ShopOut { return isEdited(t, "edit again", s, "a", "") }},
		{"edit to 4000", edits("a", long(4000)), func(s impl.Shop) impl.ShopOut { return isEdited(t, "edit to 4000", s, "a", long(4000)) }},
		{"remove", removes("a"), func(s impl.Shop) impl.ShopOut { return isRemoved(t, "remove", s, "a") }},
		{"publish", publishes(oneWord), func(s impl.Shop) impl.ShopOut { return isPublished(t, "publish", s, mains, 16) }},
	}
	for _, r := range rows {
		for more := -3; more <= 3; more++ {
			s := impl.Shop{Log: padded(ahead, impl.MaxBytes-len(r.record)+more), Synced: 20}
			same(t, "how long", len(s.Log), impl.MaxBytes-len(r.record)+more)
			want := impl.ShopOut{Shop: impl.Shop{Log: s.Log + r.record, Synced: 20}}
			if more > 0 {
				want = told(impl.ErrFull)
			}
			same(t, fmt.Sprint(r.what, more), r.do(s), want)
		}
	}
	most := impl.Shop{Log: padded(ahead, impl.MaxBytes)}
	same(t, "no text", isEdited(t, "edit", most, "a", long(4001)), told(impl.ErrForm))
	same(t, "what is not there", isRemoved(t, "remove", most, "b"), told(impl.ErrNone))
	same(t, "no mains", isPublished(t, "publish", most, nil, 16), told(impl.ErrForm))
	same(t, "a wrong line", isPublished(t, "publish", most, []string{"c"}, 16), impl.ShopOut{File: "c", Code: impl.ErrSyntax})
}

func TestRemove(t *testing.T) {
	form, none, size := told(impl.ErrForm), told(impl.ErrNone), told(impl.ErrSize)
	s := shopOf(edits("b", "x"), edits("a", ""), edits("ab", "y"))
	s.Synced = 5
	for _, name := range []string{"a", "ab", "b"} {
		got := isRemoved(t, name, s, name)
		same(t, name, got, impl.ShopOut{Shop: impl.Shop{Log: s.Log + removes(name), Synced: 5}})
		same(t, name+" again", isRemoved(t, name, got.Shop, name), none)
	}
	for _, name := range []string{"aa", "a_", "c", hugeName(20)} {
		same(t, name, isRemoved(t, name, s, name), none)
		same(t, name+", of an empty one", isRemoved(t, name, impl.Shop{}, name), none)
		same(t, name+", of 20", isRemoved(t, name, fullShop(), name), none)
	}
	for _, name := range append([]string{"", hugeName(21), hugeName(8000)}, wrongNames...) {
		same(t, name, isRemoved(t, name, s, name), form)
	}
	same(t, "a name of more than MaxBytes", isRemoved(t, "name", s, hugeName(8001)), size)
	for what, wrong := range wrongShops() {
		for _, name := range []string{"a", "b", "c", "A", hugeName(8000)} {
			same(t, what, isRemoved(t, what, wrong, name), form)
		}
		same(t, what, isRemoved(t, what, wrong, hugeName(8001)), size)
	}
	last := isRemoved(t, "the only one", shopOf(edits("a", "")), "a").Shop
	same(t, "none left", impl.StateOf(last.Log), impl.State{At: int64(len(last.Log))})
}

func TestEditNewMemory(t *testing.T) {
	s := shopOf(edits("a", ".word 5"))
	s.Synced = 3
	name, text, mains := strings.Clone("bb"), strings.Clone("a text"), []string{"a"}
	for what, out := range map[string]impl.ShopOut{"edit": impl.Edit(s, name, text), "remove": impl.Remove(s, "a"), "publish": impl.Publish(s, mains, 0)} {
		if out.Code != impl.OK || sharesMemory(out.Shop.Log, s.Log) || sharesMemory(out.Shop.Log, name) || sharesMemory(out.Shop.Log, text) {
			t.Errorf("%s: %+v lies in what was handed in", what, out)
		}
	}
	same(t, "handed in", []any{s.Log, s.Synced, name, text, mains}, []any{edits("a", ".word 5"), int64(3), "bb", "a text", []string{"a"}})
	for _, main := range []string{"missing", "wrong"} {
		missing := []string{strings.Clone(main)}
		wrong := shopOf(edits("wrong", "wrong"))
		out := impl.Publish(wrong, missing, 0)
		if out.File != main || sharesMemory(out.File, missing[0]) || sharesMemory(out.File, wrong.Log) {
			t.Errorf("%+v lies in what was handed in", out)
		}
	}
}

// TestEditKeepsNothing: what was done ahead to other Shops counts for nothing.
func TestEditKeepsNothing(t *testing.T) {
	s := shopOf(edits("a", "x"))
	first := impl.Edit(s, "b", "y")
	impl.Remove(s, "a")
	impl.Edit(first.Shop, "c", "")
	same(t, "again", isEdited(t, "again", s, "b", "y"), first)
	same(t, "an empty one", isEdited(t, "an empty one", impl.Shop{}, "b", "y"), impl.ShopOut{Shop: shopOf(edits("b", "y"))})
}
