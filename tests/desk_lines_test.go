package tests

import (
	"fmt"
	"slices"
	"strings"
	"testing"

	"loop.example/g00367/impl"
)

// deskSamples: a right line of each word.
var deskSamples = map[string]string{
	"build": "build 0 a", "crash": "crash 7", "edit": "edit a reti", "image": "image", "list": "list", "publish": "publish 16 a", "remove": "remove a", "show": "show 2 a", "sync": "sync",
}

// rightLines: what may be a line.
var rightLines = []string{
	"list", "image", "sync", "crash 0", "crash 1", "crash 9", "crash 10", "crash 123456789", "crash 999999999", "crash 100000000",
	"remove a", "remove A", "remove 7", "remove |", "remove a|b", "remove remove", "remove -", "remove a\tb", "remove \t", "remove \x00", "remove \xff", "remove ä", "remove \r",
	"build 0 a", "build 1 a", "build 999999999 a", "build 0 0", "build 5 5", "build 0 build", "build 10 a|b", "build 0 A,b", "publish 0 a", "publish 65536 a", "show 0 a", "show 70000 +",
	"edit a ", "edit a  ", "edit a   b", "edit a b", "edit a b c", "edit a b ", "edit a |", "edit a ||", "edit | |", "edit a list", "edit a edit a b", "edit a crash 5", "edit a build 01 a",
	"edit a \t", "edit a \x00\xff", "edit edit edit", "edit A x", "edit 0 x", "edit a|b x", "edit a\tb x", "edit \xff x", "edit a \r", "edit a ;  | x: reti ; y ",
}

// wrongLines: what may be none.
var wrongLines = []string{
	"", " ", "  ", "|", "a", "x y", "0", "5 a", "ok", "made 1", "list|", "list|list", "\t", "\r", "\x00", "\xff", ";", "; list", "#",
	"List", "LIST", "lis", "lists", "list ", " list", "list  ", "list a", "list 1", "list list", "list\t", "list\r", "\tlist", "list\x00", "\ufefflist",
	"image ", " image", "image a", "image 0", "images", "imag", "Image", "image\r", "sync ", " sync", "sync 1", "sync a", "synced", "syn", "sync\r",
	"crash", "crash ", "crash  5", " crash 5", "crash 5 ", "crash 5 5", "crash 5 a", "crash a", "crash 00", "crash 01", "crash 007", "crash +5", "crash -5", "crash -0", "crash +0", "crash -1",
	"crash 1000000000", "crash 1234567890", "crash 0000000001", "crash 0999999999", "crash 9223372036854775808", "crash 18446744073709551616", "crash 5.0", "crash 5.", "crash 1e3", "crash 1_000",
	"crash 0x5", "crash 5a", "crash a5", "crash |", "crash 5|", "crash \t5", "crash 5\t", "crash 5\r", "crash5", "crash\t5", "crash ٣", "crash ５", "crash '5'", "Crash 5", "crashes 5",
	"remove", "remove ", "remove  ", "remove  a", " remove a", "remove a ", "remove a b", "remove a  b", "remove 0 a", "removea", "remove\ta", "Remove a", "removes a", "remov a",
	"build", "build ", "build 0", "build 0 ", "build 0  ", "build 0  a", "build  0 a", " build 0 a", "build 0 a ", "build 0 a b", "build 0 a 0", "build a 0", "build a", "build a a", "build  a",
	"build 00 a", "build 01 a", "build -2 a", "build +2 a", "build 1000000000 a", "build 0x10 a", "build 0|a", "build 0\ta", "build\t0 a", "builds 0 a", "Build 0 a", "build 2 2 a", "build 0 a\nx ",
	"publish", "publish 0", "publish 0 ", "publish a", "publish a 0", "publish 0  a", "publish  0 a", "publish 0 a ", "publish 0 a b", "publish 00 a", "publish -2 a", "published 0 a", "publish 1000000000 a",
	"show", "show 0", "show 0 ", "show a", "show a 0", "show 0  a", "show  0 a", "show 0 a ", "show 0 a b", "show 00 a", "show -2 a", "shows 0 a", "show 1000000000 a", "sho 0 a",
	"edit", "edit ", "edit  ", "edit   ", "edit a", "edit  a", "edit  a b", "edit  a ", " edit a b", "edita b", "edita b c", "edit|a b", "edit\ta b", "Edit a b", "edits a b", "edi a b", "edit a\tb", "edit a|b",
}

func TestDeskWords(t *testing.T) {
	words := impl.DeskWords()
	same(t, "words", words, []string{"build", "crash", "edit", "image", "list", "publish", "remove", "show", "sync"})
	if !slices.IsSorted(words) {
		t.Errorf("%q do not rise", words)
	}
	for i := range words {
		words[i] = "changed"
	}
	words = append(words[:0], "once more")
	same(t, "new memory", len(impl.DeskWords()), 9)
	same(t, "new memory", impl.DeskWords()[0], "build")
	same(t, "as many as there are samples", len(deskSamples), len(impl.DeskWords()))
	for _, word := range impl.DeskWords() {
		same(t, word, isRun(t, word, deskSamples[word]+"\n").Code, int64(impl.OK))
	}
}

// TestDeskOtherWords: with what may stand behind a word of the desk no other word begins a line.
func TestDeskOtherWords(t *testing.T) {
	words := impl.DeskWords()
	others := []string{"", "a", "0", "ok", "error", "made", "kept", "synced", "add", "get", "undo", "help", "quit", "load", "save", "link", "dis", "make", "edit.", "mov", "reti", ".word", "|"}
	for _, word := range words {
		others = append(others, word+"s", word+"|", word+"\t", word+word, "x"+word, " "+word, strings.ToUpper(word), strings.ToUpper(word[:1])+word[1:])
		for i := range word {
			others = append(others, word[:i], word[i+1:], word[:i]+"x"+word[i+1:], word[:i]+word[i:i+1]+word[i:])
		}
	}
	for _, other := range others {
		if slices.Contains(words, other) {
			t.Fatalf("%q is one of the words", other)
		}
		for _, tail := range []string{"", " ", " 0", " a", " 0 a", " a b"} {
			isDeskRefused(t, fmt.Sprintf("%q", other+tail), other+tail+"\n", 0)
		}
	}
}

// TestDeskLines: each line alone, and behind and ahead of others.
func TestDeskLines(t *testing.T) {
	for _, line := range rightLines {
		what := fmt.Sprintf("%q", line)
		for _, text := range []string{line + "\n", "list\n" + line + "\n", line + "\nlist\n", line + "\n" + line + "\n"} {
			same(t, what, isRun(t, what, text).Code, int64(impl.OK))
		}
		isDeskRefused(t, what+" without its line feed", line, 0)
		isDeskRefused(t, what+" without its line feed, behind another", "list\n"+line, 1)
		isDeskRefused(t, what+" ahead of a wrong one", line+"\n\n", 1)
	}
	for _, line := range wrongLines {
		what := fmt.Sprintf("%q", line)
		isDeskRefused(t, what, line+"\n", int64(strings.Count(line, "\n")))
		isDeskRefused(t, what+" behind others", "list\nsync\n"+line+"\n", 2+int64(strings.Count(line, "\n")))
		isDeskRefused(t, what+" ahead of others", line+"\nlist\n", int64(strings.Count(line, "\n")))
		isDeskRefused(t, what+" ahead of another wrong one", line+"\nwrong\n", int64(strings.Count(line, "\n")))
		if line != "" {
			isDeskRefused(t, what+" without its line feed", "image\n"+line, 1+int64(strings.Count(line, "\n")))
		}
	}
}

// TestDeskBeside: each text one byte beside a right line.
func TestDeskBeside(t *testing.T) {
	lines := slices.Clone(rightLines)
	for _, sample := range deskSamples {
		lines = append(lines, sample)
	}
	for _, line := range lines {
		text := line + "\n"
		for at := range len(text) {
			isRun(t, fmt.Sprintf("%q without byte %d", text, at), text[:at]+text[at+1:])
			for _, b := range []string{" ", "\n", "|", "0", "9", "a", "-", "\x00"} {
				isRun(t, fmt.Sprintf("%q with %q at %d", text, b, at), text[:at]+b+text[at:])
				isRun(t, fmt.Sprintf("%q with %q for byte %d", text, b, at), text[:at]+b+text[at+1:])
			}
		}
	}
}

// TestDeskNumbers: each N of one to ten digits, of each word that has one.
func TestDeskNumbers(t *testing.T) {
	for _, form := range []string{"crash %s\n", "build %s a\n", "publish %s a\n", "show %s a\n"} {
		for many := 1; many <= 30; many++ {
			for _, digit := range []string{"0", "1", "5", "9"} {
				n := strings.Repeat(digit, many)
				text := fmt.Sprintf(form, n)
				if digit == "0" && many > 1 || many > 9 {
					isDeskRefused(t, text, text, 0)
				} else {
					same(t, text, isRun(t, text, text).Code, int64(impl.OK))
				}
				isDeskRefused(t, text+" with a nought", fmt.Sprintf(form, "0"+n), 0)
			}
		}
	}
}

// TestDeskMany: as many lines as there may be, and more.
func TestDeskMany(t *testing.T) {
	isAnswered(t, "no line", nil)
	same(t, "no line", impl.DeskRun(""), impl.DeskOut{})
	for _, many := range []int{1, 2, 39, 40} {
		got := isRun(t, fmt.Sprint(many), strings.Repeat("sync\n", many))
		same(t, fmt.Sprint(many), got, impl.DeskOut{Text: strings.Repeat("synced\n", many)})
	}
	most := strings.Repeat("list\n", impl.MaxDesk)
	for _, more := range []string{"list\n", "list\nlist\n", "wrong\n", "\n", "list", "x", " ", "list\nwrong\n", strings.Repeat("list\n", 1000)} {
		isDeskRefused(t, fmt.Sprintf("40 lines and %.20q", more), most+more, 40)
	}
	for at := range 41 {
		wrong := strings.Repeat("sync\n", at) + "wrong\n" + strings.Repeat("sync\n", 45-at)
		isDeskRefused(t, fmt.Sprint("a wrong line at ", at, " of 46"), wrong, int64(at))
	}
	for at := range 40 {
		isDeskRefused(t, fmt.Sprint("an empty line at ", at), strings.Repeat("list\n", at)+"\nlist\n", int64(at))
		isDeskRefused(t, fmt.Sprint("an end at ", at), strings.Repeat("list\n", at)+"list", int64(at))
	}
}

// TestDeskSizes: as many bytes as there may be, and more.
func TestDeskSizes(t *testing.T) {
	size := impl.DeskOut{Code: impl.ErrSize}
	for _, many := range []int{7998, 7999, 8000} {
		text := "edit a " + strings.Repeat("x", many-8) + "\n"
		same(t, fmt.Sprint(many), isRun(t, fmt.Sprint(many), text), impl.DeskOut{Text: "error 1\n"})
	}
	for _, many := range []int{8001, 8002, 20000} {
		for _, text := range []string{"edit a " + strings.Repeat("x", many-8) + "\n", "list\nedit a " + strings.Repeat("x", many-12), strings.Repeat("\n", many), strings.Repeat("x", many), strings.Repeat("list\n", many/5) + "\n\n"} {
			same(t, fmt.Sprintf("%d of %.10q", many, text), isRun(t, "size", text), size)
		}
	}
	isDeskRefused(t, "MaxBytes line feeds", strings.Repeat("\n", 8000), 0)
	isDeskRefused(t, "MaxBytes of no line feed", strings.Repeat("x", 8000), 0)
	isDeskRefused(t, "MaxBytes of right lines", strings.Repeat("list\n", 1600), 40)
	isDeskRefused(t, "MaxBytes of an edit without its line feed", "edit a "+strings.Repeat("x", 7993), 0)
}
