package tests

import (
	"fmt"
	"math"
	"slices"
	"strings"
	"testing"

	"loop.example/g00367/impl"
)

const oneWord = ":020010000500E9\n:00000001FF\n"

// threeKinds: records that all may be done one behind the other.
func threeKinds() []string {
	return []string{edits("b", "reti"), edits("a", ".word 5"), publishes(oneWord), edits("b", ""), removes("a"), publishes(hexEnd), edits("c", long(70))}
}

// TestStateOfBytes: a log that is written out byte by byte, but for its Seals.
func TestStateOfBytes(t *testing.T) {
	first := "E\x02a\x0e.word 5"
	second := "R\x02a"
	third := "P\x38" + oneWord
	log := "\x1e" + sealModel(first)
	isTold(t, "edited", log, impl.State{Sources: []impl.Source{{Name: "a", Text: ".word 5"}}, At: 16})
	log += "\x0e" + sealModel(second)
	isTold(t, "removed", log, impl.State{At: 24})
	log += "\x44" + sealModel(third)
	isTold(t, "published", log, impl.State{Image: oneWord, Builds: 1, At: 59})
	same(t, "of a Shop", impl.Edit(impl.Shop{}, "a", ".word 5"), impl.ShopOut{Shop: impl.Shop{Log: log[:16]}})
	same(t, "of another", impl.Remove(impl.Shop{Log: log[:16], Synced: 3}, "a"), impl.ShopOut{Shop: impl.Shop{Log: log[:24], Synced: 3}})
}

func TestStateOfHand(t *testing.T) {
	rows := threeKinds()
	a, b := impl.Source{Name: "a", Text: ".word 5"}, impl.Source{Name: "b", Text: "reti"}
	empty := impl.Source{Name: "b"}
	want := []impl.State{
		{},
		{Sources: []impl.Source{b}},
		{Sources: []impl.Source{a, b}},
		{Sources: []impl.Source{a, b}, Image: oneWord, Builds: 1},
		{Sources: []impl.Source{a, empty}, Image: oneWord, Builds: 1},
		{Sources: []impl.Source{empty}, Image: oneWord, Builds: 1},
		{Sources: []impl.Source{empty}, Image: hexEnd, Builds: 2},
		{Sources: []impl.Source{empty, {Name: "c", Text: long(70)}}, Image: hexEnd, Builds: 2},
	}
	log := ""
	for i := range want {
		want[i].At = int64(len(log))
		isTold(t, fmt.Sprint(i), log, want[i])
		isTold(t, fmt.Sprint(i, " and what is no record"), log+"x", want[i])
		if i < len(rows) {
			log += rows[i]
		}
	}
	isTold(t, "the same twice", rows[0]+rows[0], impl.State{Sources: []impl.Source{b}, At: int64(2 * len(rows[0]))})
	isTold(t, "gone, and there again", rows[1]+removes("a")+rows[1], impl.State{Sources: []impl.Source{a}, At: int64(2*len(rows[1]) + len(removes("a")))})
	isTold(t, "an image that was there", rows[2]+rows[5]+rows[2], impl.State{Image: oneWord, Builds: 3, At: int64(2*len(rows[2]) + len(rows[5]))})
}

func TestStateOfMaxBytes(t *testing.T) {
	ahead := strings.Join(threeKinds(), "")
	for many := impl.MaxBytes - 3; many <= impl.MaxBytes+3; many++ {
		log := padded(ahead, many)
		same(t, "how many bytes", len(log), many)
		state := isToldAsMeant(t, fmt.Sprint(many), log)
		want := int64(many)
		if many > impl.MaxBytes {
			want = 0
			same(t, "more", state, impl.State{})
		}
		same(t, "how far", state.At, want)
		isToldAsMeant(t, fmt.Sprint(many, " with a byte less"), log[:many-1])
		isToldAsMeant(t, fmt.Sprint(many, " with a byte more"), log+"\x00")
	}
	same(t, "far more", impl.StateOf(strings.Repeat(ahead, 200)), impl.State{})
	same(t, "MaxBytes of none", impl.StateOf(strings.Repeat("\x00", impl.MaxBytes)), impl.State{})
}

// TestStateOfShort: at whatever byte a log ends, all records that are whole are told.
func TestStateOfShort(t *testing.T) {
	rows := threeKinds()
	log := strings.Join(rows, "")
	number, end := 0, 0
	for many := range len(log) + 1 {
		if number < len(rows) && many == end+len(rows[number]) {
			end = many
			number++
		}
		want := stateMeant(strings.Join(rows[:number], ""))
		isTold(t, fmt.Sprint(many), log[:many], want)
		same(t, "how far", want.At, int64(end))
	}
	same(t, "how many", number, len(rows))
}

// TestStateOfTurned: whatever byte of a record is turned, all ahead of that record is told, and nothing behind it.
func TestStateOfTurned(t *testing.T) {
	rows := threeKinds()
	log := strings.Join(rows, "")
	from := 0
	for number, row := range rows {
		want := stateMeant(log[:from])
		same(t, "all ahead", want.At, int64(from))
		for at := from; at < from+len(row); at++ {
			for _, turn := range []byte{1, 2, 4, 8, 16, 32, 64, 128, 255} {
				turned := log[:at] + string([]byte{log[at] ^ turn}) + log[at+1:]
				isTold(t, fmt.Sprint(number, at, turn), turned, want)
			}
		}
		from += len(row)
	}
}

// noRecords: what is no record, or may not be done in a log of the sources a and b.
var noRecords = map[string]string{
	"nothing":                           "\x00",
	"no Seal":                           putTextMeant("E\x02a\x02x"),
	"a short Seal":                      putTextMeant("abc"),
	"a Seal of nothing":                 putTextMeant(sealModel("")),
	"a length that has needless bytes":  "\x8e\x00" + sealModel("R\x02a"),
	"a length below 0":                  "\x0d" + sealModel("R\x02a"),
	"a length that is too great":        "\x10" + sealModel("R\x02a"),
	"a length that is too small":        "\x0c" + sealModel("R\x02a"),
	"no length":                         sealModel("R\x02a"),
	"a length that ends too early":      "\x80",
	"sealed twice":                      putTextMeant(sealModel(sealModel("R\x02a"))),
	"another Seal":                      putTextMeant("R\x02a" + sealModel("R\x02b")[3:]),
	"a Seal from above":                 putTextMeant(sealTurned("R\x02a")),
	"another first byte":                recordMeant('X', "a"),
	"a first byte 0":                    recordMeant(0, "a"),
	"a first byte 255":                  recordMeant(255, "a"),
	"a small first byte":                recordMeant('r', "a"),
	"a small first byte of two":         recordMeant('e', "a", "x"),
	"no first byte":                     putTextMeant(sealModel("\x02a\x02x")),
	"a number for a first byte":         putTextMeant(sealModel("\x8a\x01\x02a\x02x")),
	"edit, of nothing":                  recordMeant('E'),
	"edit, a text is missing":           recordMeant('E', "a"),
	"edit, a text that ends too early":  putTextMeant(sealModel("E\x02a\x06xy")),
	"edit, a name that ends too early":  putTextMeant(sealModel("E\x06a")),
	"edit, a byte behind":               putTextMeant(sealModel("E\x02a\x02xy")),
	"edit, a text behind":               recordMeant('E', "a", "x", "y"),
	"edit, an empty text behind":        recordMeant('E', "a", "x", ""),
	"edit, a length of needless bytes":  putTextMeant(sealModel("E\x02a\x82\x00x")),
	"edit, a length below 0":            putTextMeant(sealModel("E\x02a\x01")),
	"edit, of no name":                  edits("", "x"),
	"edit, of a name of 21 bytes":       edits("abcdefghijklmnopqrstu", "x"),
	"edit, of a great letter":           edits("A", "x"),
	"edit, of a name behind all":        edits("~", "x"),
	"edit, of a text of 4001":           edits("a", long(4001)),
	"edit, of a text of 4001, anew":     edits("c", long(4001)),
	"remove, of nothing":                recordMeant('R'),
	"remove, of a name that ends early": putTextMeant(sealModel("R\x06a")),
	"remove, a byte behind":             putTextMeant(sealModel("R\x02ab")),
	"remove, a text behind":             recordMeant('R', "a", "b"),
	"remove, an empty text behind":      recordMeant('R', "a", ""),
	"remove, what is not there":         removes("c"),
	"remove, what is ahead of all":      removes("aa"),
	"remove, of no name":                removes(""),
	"remove, of a great letter":         removes("A"),
	"publish, of nothing":               recordMeant('P'),
	"publish, a text behind":            recordMeant('P', oneWord, ""),
	"publish, a byte behind":            putTextMeant(sealModel("P" + putTextMeant(oneWord) + "\n")),
	"publish, that ends too early":      putTextMeant(sealModel("P\x3a" + oneWord)),
	"publish, an empty image":           publishes(""),
	"publish, no image":                 publishes("x"),
	"publish, a digit turned":           publishes(strings.Replace(oneWord, "5", "6", 1)),
	"publish, small letters":            publishes(strings.ToLower(oneWord)),
	"publish, no end":                   publishes(oneWord[:16]),
	"publish, two images":               publishes(oneWord + oneWord),
	"publish, of too many words":        publishes(hexMeant(0, wordsUp(401))),
}

// sealTurned: the CRC's bytes stand there the highest first.
func sealTurned(text string) string {
	sealed := []byte(sealModel(text))
	slices.Reverse(sealed[len(text):])
	return string(sealed)
}

func TestStateOfNoRecords(t *testing.T) {
	ahead := []string{edits("b", "x"), publishes(hexEnd), edits("a", "y")}
	log := strings.Join(ahead, "")
	want := impl.State{Sources: []impl.Source{{Name: "a", Text: "y"}, {Name: "b", Text: "x"}}, Image: hexEnd, Builds: 1, At: int64(len(log))}
	for what, no := range noRecords {
		isTold(t, what, log+no, want)
		isTold(t, what+", and more behind", log+no+removes("a")+publishes(oneWord), want)
		isTold(t, what+", alone", no, impl.State{})
		for _, synced := range []int64{0, want.At, int64(len(log + no))} {
			same(t, what+", of a Shop", impl.ShopRight(impl.Shop{Log: log + no, Synced: synced}), false)
		}
	}
}

// TestStateOfSizes: names, texts and images as great as may be.
func TestStateOfSizes(t *testing.T) {
	for _, name := range rightNames {
		log := edits(name, "x")
		isTold(t, name, log, impl.State{Sources: []impl.Source{{Name: name, Text: "x"}}, At: int64(len(log))})
	}
	for _, name := range wrongNames {
		isTold(t, name, edits(name, "x"), impl.State{})
	}
	for _, many := range []int{0, 1, 63, 64, 65, 3999, 4000} {
		log := edits("a", long(many))
		isTold(t, fmt.Sprint(many), log, impl.State{Sources: []impl.Source{{Name: "a", Text: long(many)}}, At: int64(len(log))})
	}
	for _, many := range []int{4001, 4002, 7985} {
		isTold(t, fmt.Sprint(many), edits("a", long(many)), impl.State{})
	}
	for _, many := range []int{0, 1, 8, 9, 300, 301, 400} {
		image := hexMeant(512, wordsUp(many))
		log := publishes(image)
		isTold(t, fmt.Sprint(many, " words"), log, impl.State{Image: image, Builds: 1, At: int64(len(log))})
	}
}

// TestStateOf21: a 21st source ends the log; one of the 20 may be edited, and one more, when another is gone.
func TestStateOf21(t *testing.T) {
	log := ""
	for i := range 20 {
		log += edits(fmt.Sprintf("s%03d", 19-i), fmt.Sprint(19-i))
	}
	state := isToldAsMeant(t, "20", log)
	same(t, "20", []int{len(state.Sources), int(state.At)}, []int{20, len(log)})
	for _, name := range []string{"a", "s0000", "s020", "t"} {
		more := edits(name, "x")
		isTold(t, name, log+more, state)
		isTold(t, name+" and more", log+more+removes(name), state)
		less := log + removes("s007")
		got := isToldAsMeant(t, name+" in the place of another", less+more)
		same(t, "how many", []int{len(got.Sources), int(got.At)}, []int{20, len(less + more)})
	}
	got := isToldAsMeant(t, "edited", log+edits("s007", "x"))
	same(t, "edited", []any{len(got.Sources), got.Sources[7]}, []any{20, impl.Source{Name: "s007", Text: "x"}})
}

// recordAtRandom: a record of few names, so that much is edited again, and some may not be done.
func (d *dice) recordAtRandom() string {
	names := []string{"a", "b", "bb", "c", "d_1", "e"}
	switch d.below(8) {
	case 0, 1, 2:
		return edits(d.pick(names), d.text(d.below(90)))
	case 3, 4:
		return removes(d.pick(names))
	case 5, 6:
		return publishes(hexMeant(int64(2*d.below(30000)), wordsUp(d.below(20))))
	}
	return edits(fmt.Sprintf("m%d", d.below(40)), "")
}

// tearAtRandom: some byte of the log is turned, taken out or put in.
func (d *dice) tearAtRandom(log string) string {
	at := d.below(len(log))
	switch d.below(3) {
	case 0:
		return log[:at] + string([]byte{log[at] ^ byte(1+d.below(255))}) + log[at+1:]
	case 1:
		return log[:at] + log[at+1:]
	}
	return log[:at] + d.text(1) + log[at:]
}

func TestStateOfRandom(t *testing.T) {
	d := dice{8}
	whole, many := 0, 0
	for range 4000 {
		log := ""
		for range 1 + d.below(40) {
			log += d.recordAtRandom()
		}
		if d.below(3) == 0 {
			log = d.tearAtRandom(log)
		}
		state := isToldAsMeant(t, fmt.Sprintf("%q", log), log)
		same(t, "the sources are right", impl.SourcesRight(state.Sources), true)
		if int(state.At) == len(log) {
			whole++
		}
		if state.At > 300 {
			many++
		}
	}
	if whole < 300 || many < 500 {
		t.Errorf("too little was asked: %d were whole, %d long", whole, many)
	}
}

func TestStateOfNewMemory(t *testing.T) {
	log := strings.Join(threeKinds(), "")
	first := impl.StateOf(log)
	for _, s := range first.Sources {
		if sharesMemory(s.Name, log) || sharesMemory(s.Text, log) {
			t.Errorf("%q lies in what was handed in", s)
		}
	}
	if sharesMemory(first.Image, log) {
		t.Errorf("%q lies in what was handed in", first.Image)
	}
	first.Sources[0] = impl.Source{Name: "x"}
	same(t, "again", impl.StateOf(log), stateMeant(log))
	same(t, "the log", log, strings.Join(threeKinds(), ""))
}

func TestShopRight(t *testing.T) {
	log := strings.Join(threeKinds(), "")
	many := int64(len(log))
	is := func(what string, s impl.Shop, want bool) {
		t.Helper()
		same(t, what, []bool{impl.ShopRight(s), rightMeant(s)}, []bool{want, want})
	}
	is("empty", impl.Shop{}, true)
	for synced := int64(-3); synced <= many+3; synced++ {
		is(fmt.Sprint(synced), impl.Shop{Log: log, Synced: synced}, synced >= 0 && synced <= many)
		is(fmt.Sprint(synced, " of none"), impl.Shop{Synced: synced}, synced == 0)
	}
	for _, synced := range []int64{math.MinInt64, -1 << 32, 1 << 32, math.MaxInt64} {
		is(fmt.Sprint(synced), impl.Shop{Log: log, Synced: synced}, false)
	}
	is("one byte less", impl.Shop{Log: log[:many-1], Synced: many - 1}, false)
	is("one byte more", impl.Shop{Log: log + "\x00", Synced: many}, false)
	is("a text that is no log", impl.Shop{Log: "x"}, false)
	most := padded(log, impl.MaxBytes)
	is("MaxBytes", impl.Shop{Log: most}, true)
	is("MaxBytes, all synced", impl.Shop{Log: most, Synced: impl.MaxBytes}, true)
	is("MaxBytes, more synced", impl.Shop{Log: most, Synced: impl.MaxBytes + 1}, false)
	more := padded(log, impl.MaxBytes+1)
	is("one more", impl.Shop{Log: more}, false)
	is("one more, all synced", impl.Shop{Log: more, Synced: impl.MaxBytes + 1}, false)
}
