package tests

import (
	"fmt"
	"regexp"
	"strconv"
	"strings"
	"testing"

	"loop.example/g00367/impl"
)

// deskForms: each line as a whole; what stands in brackets is its word, and N, NAME and TEXT.
var deskForms = []*regexp.Regexp{
	regexp.MustCompile(`(?s)\A(edit) (?P<name>[^ ]+) (?P<text>.*)\z`),
	regexp.MustCompile(`\A(remove) (?P<name>[^ ]+)\z`),
	regexp.MustCompile(`\A(build|publish|show) (?P<n>0|[1-9][0-9]{0,8}) (?P<name>[^ ]+)\z`),
	regexp.MustCompile(`\A(crash) (?P<n>0|[1-9][0-9]{0,8})\z`),
	regexp.MustCompile(`\A(list|image|sync)\z`),
}

// deskMeant does the lines in another way than the program does, by the document's words.
type deskMeant struct {
	shop  impl.Shop
	cache []impl.Entry
}

// askedMeant: the word of a line, and its N, NAME and TEXT; no word, if it is none of the lines.
func askedMeant(line string) (word string, n int64, name string, text string) {
	for _, form := range deskForms {
		found := form.FindStringSubmatch(line)
		if found == nil {
			continue
		}
		word = found[1]
		for i, what := range form.SubexpNames() {
			switch what {
			case "n":
				n, _ = strconv.ParseInt(found[i], 10, 64)
			case "name":
				name = found[i]
			case "text":
				text = strings.Join(strings.Split(found[i], "|"), "\n")
			}
		}
	}
	return
}

// placed: an error with its File and Line.
func placed(code int64, file string, line int64) string {
	if file == "" {
		return fmt.Sprintf("error %d - %d", code, line)
	}
	return fmt.Sprintf("error %d %s %d", code, file, line)
}

// changes: a Shop is taken where it is told, and its code where it is not.
func (d *deskMeant) changes(out impl.ShopOut) string {
	if out.Code == impl.OK {
		d.shop = out.Shop
		return "ok"
	}
	return fmt.Sprint("error ", out.Code)
}

// builds: the words of a build, or of a show.
func (d *deskMeant) builds(word string, n int64, name string) string {
	out := builtMeant(stateMeant(d.shop.Log).Sources, []string{name}, n, d.cache)
	if out.Code != impl.OK {
		return placed(out.Code, out.File, out.Line)
	}
	if word == "show" {
		return strings.ReplaceAll(strings.TrimSuffix(listed(rowsMeant(out.Words, n)), "\n"), "\n", " | ")
	}
	d.cache = out.Cache
	told := fmt.Sprint("made ", out.Made)
	for _, n := range out.Words {
		told += fmt.Sprint(" ", n)
	}
	return told
}

// does: what a right line tells.
func (d *deskMeant) does(line string) string {
	word, n, name, text := askedMeant(line)
	state := stateMeant(d.shop.Log)
	switch word {
	case "edit":
		return d.changes(editMeant(d.shop, name, text))
	case "remove":
		return d.changes(removeMeant(d.shop, name))
	case "build", "show":
		return d.builds(word, n, name)
	case "publish":
		out := publishMeant(d.shop, []string{name}, n)
		if out.Code != impl.OK {
			return placed(out.Code, out.File, out.Line)
		}
		d.shop = out.Shop
		return "ok"
	case "list":
		told := "list"
		for _, s := range state.Sources {
			told += fmt.Sprintf(" %s=%d", s.Name, len(s.Text))
		}
		return told
	case "image":
		return fmt.Sprintf("image %d %d", len(state.Image), state.Builds)
	case "sync":
		d.shop = syncMeant(d.shop)
		return "synced"
	}
	d.shop = recoverMeant(crashMeant(d.shop, n))
	return fmt.Sprint("kept ", len(d.shop.Log))
}

// runMeant: what a desk's text tells.
func runMeant(text string) impl.DeskOut {
	if len(text) > 8000 {
		return impl.DeskOut{Code: impl.ErrSize}
	}
	lines := strings.Split(text, "\n")
	last := len(lines) - 1
	for i, line := range lines {
		if i == last && line == "" {
			break
		}
		if word, _, _, _ := askedMeant(line); word == "" || i == last || i >= 40 {
			return impl.DeskOut{Line: int64(i), Code: impl.ErrSyntax}
		}
	}
	var d deskMeant
	var out impl.DeskOut
	for _, line := range lines[:last] {
		out.Text += d.does(line) + "\n"
	}
	return out
}

// isRun asks the program of a desk, and holds it against the second desk; and DeskFault against that.
func isRun(t *testing.T, what string, text string) impl.DeskOut {
	t.Helper()
	got := impl.DeskRun(text)
	same(t, what, got, runMeant(text))
	same(t, what+", its fault", impl.DeskFault(text), impl.DeskOut{Line: got.Line, Code: got.Code})
	if sharesMemory(text, got.Text) {
		t.Errorf("%s: what is told shares memory with what was handed in", what)
	}
	return got
}

// isAnswered asks the program and the second desk of these lines, and holds both against the lines that they are to tell.
func isAnswered(t *testing.T, what string, rows [][2]string) {
	t.Helper()
	asked, want := "", ""
	for _, r := range rows {
		asked += r[0] + "\n"
		want += r[1] + "\n"
	}
	got := isRun(t, what, asked)
	same(t, what, got.Code, int64(impl.OK))
	lines := strings.Split(got.Text, "\n")
	for i, r := range rows {
		if i < len(lines) && lines[i] != r[1] {
			t.Errorf("%s: line %d, %.60q: told %.200q, not %.200q", what, i, r[0], lines[i], r[1])
		}
	}
	if got.Text != want {
		t.Errorf("%s: told %.500q, not %.500q", what, got.Text, want)
	}
}

// isDeskRefused asks the program and the second desk of a text that is refused with ErrSyntax at this line.
func isDeskRefused(t *testing.T, what string, text string, line int64) {
	t.Helper()
	same(t, what, isRun(t, what, text), impl.DeskOut{Line: line, Code: impl.ErrSyntax})
}
