package tests

import (
	"fmt"
	"slices"
	"strings"
	"testing"

	"loop.example/g00367/impl"
)

// keepsPromise13: each line tells a line, one by one: what some lines tell stays, whatever lines follow. A text that is
// refused tells its code and Line alone.
func keepsPromise13(t *testing.T, what string, text string) impl.DeskOut {
	t.Helper()
	out := isRun(t, what, text)
	if out.Code != impl.OK {
		same(t, what, out.Text, "")
		return out
	}
	same(t, what, out.Line, int64(0))
	lines, told := strings.SplitAfter(text, "\n"), strings.SplitAfter(out.Text, "\n")
	same(t, what+": as many lines", len(told), len(lines))
	for i := range lines {
		first := impl.DeskRun(strings.Join(lines[:i], ""))
		same(t, fmt.Sprint(what, ": the first ", i), first, impl.DeskOut{Text: strings.Join(told[:i], "")})
	}
	return out
}

// everyLine: lines of each word, some of which are refused when they are done.
var everyLine = []string{
	"edit main start: mov #table+2, r5|.include part|jmp start", "edit part table: .word 1, 0x10, start|.space 4", "build 4096 main", "list", "publish 4096 main", "image", "show 4096 main", "sync",
	"edit bad x", "build 0 bad", "show 0 bad", "publish 0 bad", "remove bad", "remove bad", "edit Bad x", "crash 3", "list", "build 1 main", "build 0 main", "remove part", "crash 0", "list", "edit part ",
	"build 0 part", "show 0 part", "publish 0 part", "image", "crash 100", "build 4096 part", "show 65534 main",
}

func TestPromise13(t *testing.T) {
	d := dice{13}
	for _, many := range []int{0, 1, 2, 5, 39, 40, 41, 45} {
		for range 12 {
			text := ""
			for range many {
				text += d.pick(everyLine) + "\n"
			}
			out := keepsPromise13(t, fmt.Sprintf("%d lines: %q", many, text), text)
			if many > impl.MaxDesk {
				same(t, fmt.Sprint(many), out, impl.DeskOut{Line: impl.MaxDesk, Code: impl.ErrSyntax})
			} else {
				same(t, fmt.Sprint(many), []int64{out.Code, int64(strings.Count(out.Text, "\n"))}, []int64{impl.OK, int64(many)})
			}
		}
	}
	all := strings.Join(everyLine, "\n") + "\n"
	same(t, "each, one by one", keepsPromise13(t, "each", all).Code, int64(impl.OK))
	for i, line := range everyLine {
		keepsPromise13(t, line, line+"\n")
		wrong := slices.Insert(slices.Clone(everyLine), i, "wrong")
		same(t, "a wrong one", keepsPromise13(t, "a wrong one", strings.Join(wrong, "\n")+"\n"), impl.DeskOut{Line: int64(i), Code: impl.ErrSyntax})
	}
}

// deskText: a text as it stands in an edit.
func deskText(text string) string {
	return strings.ReplaceAll(text, "\n", "|")
}

// wordsTold: the words that a build of these two sources tells, each with a blank ahead, and how show tells them.
func wordsTold(t *testing.T, base int64, main, part string) (string, string) {
	t.Helper()
	l := []impl.Source{{Name: "main", Text: main}, {Name: "part", Text: part}}
	out := impl.Build(l, []string{"main"}, base, nil)
	if out.Code != impl.OK {
		t.Fatalf("%q is not built: %+v", l, out)
	}
	words := ""
	for _, n := range out.Words {
		words += fmt.Sprint(" ", n)
	}
	var texts []string
	for _, row := range impl.Dis(out.Words, base) {
		texts = append(texts, row.Text)
	}
	return words, strings.Join(texts, " | ")
}

// keepsPromise14: a program is built, built again, made anew when what it includes is edited, published, and found again
// behind a crash that keeps so many bytes of what is not synced: the Texts of part are as unlike as their keys.
func keepsPromise14(t *testing.T, base int64, main, part, edited string, keep int) {
	t.Helper()
	what := fmt.Sprintf("%q with %q, then %q at %d, kept %d", main, part, edited, base, keep)
	before, shownBefore := wordsTold(t, base, main, part)
	after, shownAfter := wordsTold(t, base, main, edited)
	place := fmt.Sprint(base, " main")
	first := edits("main", main) + edits("part", part)
	log := impl.Publish(shopOf(first, edits("part", edited)), []string{"main"}, base).Shop.Log
	image := impl.StateOf(log).Image

	// What is kept: both sources alone; what was edited, too; the image, too.
	kept, listed, images := len(first), len(part), "image 0 0"
	found, shown := before, shownBefore
	if second := len(edits("part", edited)); keep >= second {
		kept, listed, found, shown = kept+second, len(edited), after, shownAfter
	}
	if len(first)+keep >= len(log) {
		kept, images = len(log), fmt.Sprintf("image %d 1", len(image))
	}
	isAnswered(t, what, [][2]string{
		{"edit main " + deskText(main), "ok"}, {"edit part " + deskText(part), "ok"}, {"sync", "synced"},
		{"build " + place, "made 1" + before}, {"build " + place, "made 0" + before}, {"show " + place, shownBefore},
		{"edit part " + deskText(edited), "ok"}, {"show " + place, shownAfter}, {"build " + place, "made 1" + after}, {"build " + place, "made 0" + after}, {"show " + place, shownAfter},
		{"publish " + place, "ok"}, {"list", fmt.Sprintf("list main=%d part=%d", len(main), len(edited))}, {"image", fmt.Sprintf("image %d 1", len(image))},
		{fmt.Sprint("crash ", keep), fmt.Sprint("kept ", kept)}, {"list", fmt.Sprintf("list main=%d part=%d", len(main), listed)}, {"image", images},
		{"build " + place, "made 0" + found}, {"show " + place, shown},
	})
}

func TestPromise14(t *testing.T) {
	mains := []string{".include part\n.word 1", "start: mov #table, r5\njmp start\n.include part\n", "\n.include part", ".global table\n.include part ; here\ncall #table+4"}
	parts := []string{"table: .word 2, 3", "table:", "table: .word 2, 4", "push #table\ntable: jmp table\n", "table: .word 2, 3 "}
	for _, main := range mains {
		for i, part := range parts {
			edited := parts[(i+1)%len(parts)]
			second := len(edits("part", edited))
			for _, base := range []int64{0, 4096, 65000} {
				for _, keep := range []int{0, 1, second - 1, second, second + 1, second + 20, second + 400, 999999999} {
					keepsPromise14(t, base, main, part, edited, keep)
				}
			}
		}
	}
}

// TestPromise14Synced: what is synced behind all is found again with its image, however much a crash takes.
func TestPromise14Synced(t *testing.T) {
	for _, keep := range []string{"0", "1", "50", "999999999"} {
		isAnswered(t, "kept "+keep, [][2]string{
			{"edit main .include part", "ok"}, {"edit part .word 7", "ok"}, {"build 0 main", "made 1 7"}, {"publish 0 main", "ok"}, {"sync", "synced"}, {"crash " + keep, "kept 79"},
			{"list", "list main=13 part=7"}, {"image", "image 28 1"}, {"build 0 main", "made 0 7"}, {"edit part .word 8", "ok"}, {"build 0 main", "made 1 8"}, {"crash 0", "kept 79"}, {"build 0 main", "made 0 7"},
			{"build 2 main", "made 0 7"}, {"edit part .word 8", "ok"}, {"sync", "synced"}, {"crash " + keep, "kept 98"}, {"build 0 main", "made 0 8"}, {"image", "image 28 1"},
		})
	}
}

// textsAtRandom: what the sources of desks at random have as their TEXTs.
var textsAtRandom = []string{
	".include part|.word 1", "x: mov #x, r5|jmp x", ".include side|.include part", "reti", ".word 1, 2", "reti ; once more", ".include part|.include part", "x: jmp x+1", "x: .word y", "", "  ",
	".space 100|.space 100", ".space 90|.word 9|.space 99|jmp $+0", ".space 100|.space 100|.space 100|reti", "|.include main", ".include none", "wrong", ".global x|x:", ".global z",
}

// lineAtRandom: a line of a desk, now and then one that is refused.
func (d *dice) lineAtRandom() string {
	name := d.pick([]string{"main", "part", "side", "main", "part", "side", "main", "part", "none", "Wrong"})
	base := 2*d.below(32768) + d.below(15)/14
	if d.below(3) == 0 {
		base = 65534
	}
	switch d.below(14) {
	case 0, 1, 2:
		return "edit " + name + " " + d.pick(textsAtRandom)
	case 3:
		return "edit " + name + " " + deskText(promised()[d.below(5)].Text)
	case 4:
		return fmt.Sprintf("edit m%d %s", d.below(30), strings.Repeat("x", d.below(500)))
	case 5, 6, 7:
		return fmt.Sprint("build ", base, " ", name)
	case 8:
		return fmt.Sprint("show ", base, " ", name)
	case 9, 10:
		return fmt.Sprint("publish ", base, " ", name)
	case 11:
		return d.pick([]string{"remove " + name, "sync", fmt.Sprint("crash ", d.below(200)*d.below(3))})
	case 12:
		return d.pick([]string{"list", "image", "sync"})
	}
	if d.below(10) == 0 {
		return d.pick(wrongLines)
	}
	return d.pick(rightLines)
}

// TestDeskRandom: desks at random, held against the second one line by line.
func TestDeskRandom(t *testing.T) {
	d := dice{9}
	seen := map[string]int{}
	for range 3000 {
		text := ""
		for range d.below(42) {
			text += d.lineAtRandom() + "\n"
		}
		if d.below(30) == 0 {
			text = strings.TrimSuffix(text, "\n")
		}
		out := isRun(t, fmt.Sprintf("%q", text), text)
		seen[fmt.Sprint("code ", out.Code)]++
		for line := range strings.Lines(out.Text) {
			first, behind, _ := strings.Cut(strings.TrimSuffix(line, "\n"), " ")
			if first == "error" || first == "made" {
				what, _, _ := strings.Cut(behind, " ")
				first += " " + what
			}
			seen[first]++
		}
	}
	for what, times := range map[string]int{
		"code 0": 1000, "code 3": 500, "ok": 10000, "made 0": 300, "made 1": 1000, "synced": 1000, "kept": 1000, "list": 1000, "image": 1000,
		"error 1": 1000, "error 3": 500, "error 6": 1000, "error 7": 100, "error 8": 30, "error 9": 10, "error 10": 10,
	} {
		if seen[what] < times {
			t.Errorf("%s was told %d times: %v", what, seen[what], seen)
		}
	}
}
