package tests

import (
	"maps"
	"slices"
	"strings"
	"testing"

	"loop.example/g00367/impl"
)

// recordMeant: a record of this byte and these texts, right or not.
func recordMeant(does byte, texts ...string) string {
	row := string([]byte{does})
	for _, t := range texts {
		row += putTextMeant(t)
	}
	return putTextMeant(sealModel(row))
}

func edits(name, text string) string     { return recordMeant(69, name, text) }
func removes(name string) string         { return recordMeant(82, name) }
func publishes(image string) string      { return recordMeant(80, image) }
func shopOf(records ...string) impl.Shop { return impl.Shop{Log: strings.Join(records, "")} }

// shopMeant is a log as far as it was gone through.
type shopMeant struct {
	texts  map[string]string
	image  string
	builds int64
	at     int64
}

// recordTaken: the byte and texts of the record that the log begins with, and how many bytes it has: none, if they are
// laid in another way.
func recordTaken(log string) (byte, []string, int) {
	k := rowTaker{[]byte(log)}
	sealed := k.text()
	if len(sealed) < 5 {
		return 0, nil, 0
	}
	k = rowTaker{[]byte(sealed[1 : len(sealed)-4])}
	texts := []string{k.text()}
	if sealed[0] == 69 {
		texts = append(texts, k.text())
	}
	laid := recordMeant(sealed[0], texts...)
	if !strings.HasPrefix(log, laid) {
		return 0, nil, 0
	}
	return sealed[0], texts, len(laid)
}

// does: may that be done? If so, it is.
func (m *shopMeant) does(does byte, texts []string) bool {
	_, there := m.texts[texts[0]]
	switch does {
	case 69:
		if !nameAlone.MatchString(texts[0]) || len(texts[1]) > 4000 || !there && len(m.texts) == 20 {
			return false
		}
		m.texts[texts[0]] = texts[1]
		return true
	case 82:
		delete(m.texts, texts[0])
		return there
	case 80:
		read := impl.HexRead(texts[0])
		if read.Code != impl.OK || hexMeant(read.Base, read.Words) != texts[0] {
			return false
		}
		m.image, m.builds = texts[0], m.builds+1
		return true
	}
	return false
}

// stateMeant goes through a log in another way than the program does, by the document's words.
func stateMeant(log string) impl.State {
	if len(log) > 8000 {
		return impl.State{}
	}
	m := shopMeant{texts: map[string]string{}}
	for {
		does, texts, many := recordTaken(log[m.at:])
		if many == 0 || !m.does(does, texts) {
			break
		}
		m.at += int64(many)
	}
	state := impl.State{Image: m.image, Builds: m.builds, At: m.at}
	for _, name := range slices.Sorted(maps.Keys(m.texts)) {
		state.Sources = append(state.Sources, impl.Source{Name: name, Text: m.texts[name]})
	}
	return state
}

func rightMeant(s impl.Shop) bool {
	many := int64(len(s.Log))
	return many <= 8000 && stateMeant(s.Log).At == many && 0 <= s.Synced && s.Synced <= many
}

func hasSource(s impl.Shop, name string) bool {
	return slices.ContainsFunc(stateMeant(s.Log).Sources, func(s impl.Source) bool { return s.Name == name })
}

func withMeant(s impl.Shop, record string) impl.ShopOut {
	if len(s.Log)+len(record) > 8000 {
		return told(impl.ErrFull)
	}
	return impl.ShopOut{Shop: impl.Shop{Log: s.Log + record, Synced: s.Synced}}
}

// told: a code with nothing beside it.
func told(code int64) impl.ShopOut {
	return impl.ShopOut{Code: code}
}

func editMeant(s impl.Shop, name, text string) impl.ShopOut {
	switch {
	case max(len(name), len(text)) > 8000:
		return told(impl.ErrSize)
	case !rightMeant(s) || !nameAlone.MatchString(name) || len(text) > 4000:
		return told(impl.ErrForm)
	case len(stateMeant(s.Log).Sources) == 20 && !hasSource(s, name):
		return told(impl.ErrFull)
	}
	return withMeant(s, edits(name, text))
}

func removeMeant(s impl.Shop, name string) impl.ShopOut {
	switch {
	case len(name) > 8000:
		return told(impl.ErrSize)
	case !rightMeant(s) || !nameAlone.MatchString(name):
		return told(impl.ErrForm)
	case !hasSource(s, name):
		return told(impl.ErrNone)
	}
	return withMeant(s, removes(name))
}

func publishMeant(s impl.Shop, mains []string, base int64) impl.ShopOut {
	switch {
	case len(mains) > 400:
		return told(impl.ErrSize)
	case !rightMeant(s):
		return told(impl.ErrForm)
	}
	built := builtMeant(stateMeant(s.Log).Sources, mains, base, nil)
	if built.Code != impl.OK {
		return impl.ShopOut{File: built.File, Line: built.Line, Code: built.Code}
	}
	return withMeant(s, publishes(hexMeant(base, built.Words)))
}

func syncMeant(s impl.Shop) impl.Shop {
	if rightMeant(s) {
		s.Synced = int64(len(s.Log))
	}
	return s
}

func crashMeant(s impl.Shop, keep int64) impl.Shop {
	if s.Synced < 0 || s.Synced > int64(len(s.Log)) {
		return s
	}
	synced, others := s.Log[:s.Synced], s.Log[s.Synced:]
	if keep < 0 {
		others = ""
	} else if keep < int64(len(others)) {
		others = others[:keep]
	}
	return impl.Shop{Log: synced + others, Synced: int64(len(synced + others))}
}

func recoverMeant(s impl.Shop) impl.Shop {
	if len(s.Log) > 8000 {
		return s
	}
	at := stateMeant(s.Log).At
	return impl.Shop{Log: s.Log[:at], Synced: at}
}

// isTold asks the program of a log, and the second way through it, and holds both against what is wanted.
func isTold(t *testing.T, what string, log string, want impl.State) {
	t.Helper()
	same(t, what+" as meant", stateMeant(log), want)
	isToldAsMeant(t, what, log)
}

// isToldAsMeant asks the program of a log, and holds it against the second way through it.
func isToldAsMeant(t *testing.T, what string, log string) impl.State {
	t.Helper()
	got := impl.StateOf(log)
	same(t, what, got, stateMeant(log))
	return got
}

// isEdited, isRemoved and isPublished ask the program, and hold it against the second workshop.
func isEdited(t *testing.T, what string, s impl.Shop, name, text string) impl.ShopOut {
	t.Helper()
	got := impl.Edit(s, name, text)
	same(t, what, got, editMeant(s, name, text))
	return got
}

func isRemoved(t *testing.T, what string, s impl.Shop, name string) impl.ShopOut {
	t.Helper()
	got := impl.Remove(s, name)
	same(t, what, got, removeMeant(s, name))
	return got
}

func isPublished(t *testing.T, what string, s impl.Shop, mains []string, base int64) impl.ShopOut {
	t.Helper()
	handed := slices.Clone(mains)
	got := impl.Publish(s, mains, base)
	same(t, what, got, publishMeant(s, mains, base))
	if !slices.Equal(handed, mains) {
		t.Errorf("%s: what was handed in is not as it was: %q", what, mains)
	}
	return got
}

// padded: the log, and behind it records that edit the source p (or pp, ppp) up to so many bytes.
func padded(log string, many int) string {
	for many-len(log) > 3000 {
		log += edits("p", long(2500))
	}
	left := many - len(log)
	// A record has some bytes beside its text, and more of a text of 64 bytes and more: another name fills that gap.
	for text := max(0, left-20); text < left; text++ {
		for _, name := range []string{"p", "pp", "ppp"} {
			if record := edits(name, long(text)); len(record) == left {
				return log + record
			}
		}
	}
	return log
}
