package tests

import (
	"fmt"
	"strings"
	"testing"

	"loop.example/g00367/impl"
)

func TestDeskHand(t *testing.T) {
	isAnswered(t, "a workshop", [][2]string{
		{"list", "list"},
		{"image", "image 0 0"},
		{"sync", "synced"},
		{"crash 5", "kept 0"},
		{"edit main .include part|.word 1", "ok"},
		{"build 16 main", "error 6 main 0"},
		{"show 16 main", "error 6 main 0"},
		{"publish 16 main", "error 6 main 0"},
		{"edit part .word 2,3", "ok"},
		{"list", "list main=21 part=9"},
		{"build 16 main", "made 1 2 3 1"},
		{"show 16 main", ".word 2 | .word 3 | .word 1"},
		{"build 16 part", "made 1 2 3"},
		{"build 0 main", "made 0 2 3 1"},
		{"image", "image 0 0"},
		{"publish 16 main", "ok"},
		{"image", "image 36 1"},
		{"publish 16 part", "ok"},
		{"image", "image 32 2"},
		{"edit part x: mov #x, r5|jmp x", "ok"},
		{"build 4096 main", "made 1 16437 4096 16381 1"},
		{"show 4096 main", "mov #4096, r5 | jmp $-4 | .word 1"},
		{"show 8 part", "mov ##8, r5 | jmp $-4"},
		{"remove main", "ok"},
		{"list", "list part=19"},
		{"remove main", "error 6"},
		{"build 0 main", "error 6 main 0"},
		{"image", "image 32 2"},
		{"sync", "synced"},
	})
}

// TestDeskTexts: what an edit's TEXT is.
func TestDeskTexts(t *testing.T) {
	isAnswered(t, "texts", [][2]string{
		{"edit a ", "ok"}, {"list", "list a=0"}, {"build 0 a", "made 1"}, {"show 0 a", ""},
		{"edit a  ", "ok"}, {"list", "list a=1"}, {"build 0 a", "made 1"},
		{"edit a   reti   ", "ok"}, {"list", "list a=9"}, {"build 0 a", "made 1 4864"},
		{"edit a |", "ok"}, {"list", "list a=1"},
		{"edit a ||reti|", "ok"}, {"list", "list a=7"}, {"show 0 a", "reti"},
		{"edit a ||wrong", "ok"}, {"show 0 a", "error 3 a 2"},
		{"edit a reti ; a|b", "ok"}, {"show 0 a", "error 3 a 1"},
		{"edit b list", "ok"}, {"show 0 b", "error 3 b 0"},
		{"edit b edit a .word 7", "ok"}, {"list", "list a=10 b=14"},
		{"edit b remove b", "ok"}, {"edit b sync", "ok"}, {"list", "list a=10 b=4"},
		{"edit b .word 1 |.word 2", "ok"}, {"show 0 b", ".word 1 | .word 2"},
		{"edit b \x00\xff\t\r", "ok"}, {"list", "list a=10 b=4"}, {"show 0 b", "error 3 b 0"},
		{"remove b", "ok"}, {"list", "list a=10"},
	})
}

// TestDeskChanges: each code of Edit and Remove, behind which all is as it was.
func TestDeskChanges(t *testing.T) {
	rows := [][2]string{
		{"edit A x", "error 1"}, {"edit 7 x", "error 1"}, {"edit a|b x", "error 1"}, {"edit aaaaaaaaaaaaaaaaaaaaa x", "error 1"}, {"edit \xff ", "error 1"},
		{"edit a " + strings.Repeat("|", 4001), "error 1"}, {"remove A", "error 1"}, {"remove aaaaaaaaaaaaaaaaaaaaa", "error 1"}, {"remove |", "error 1"}, {"remove a", "error 6"},
		{"list", "list"}, {"image", "image 0 0"}, {"crash 1", "kept 0"}, {"edit aaaaaaaaaaaaaaaaaaaa ", "ok"}, {"remove aaaaaaaaaaaaaaaaaaa", "error 6"},
		{"list", "list aaaaaaaaaaaaaaaaaaaa=0"}, {"remove aaaaaaaaaaaaaaaaaaaa", "ok"}, {"list", "list"},
	}
	isAnswered(t, "refused", rows)
	isAnswered(t, "a text of 4000 bytes", [][2]string{{"edit a " + strings.Repeat(";", 3999) + "|", "ok"}, {"list", "list a=4000"}, {"show 6 a", ""}})
	rows = nil
	sources := "list"
	for i := range 20 {
		rows = append(rows, [2]string{fmt.Sprintf("edit s%02d x", i), "ok"})
		sources += fmt.Sprintf(" s%02d=%d", i, max(1, 2*(i-18)))
	}
	isAnswered(t, "20 sources", append(rows, [][2]string{
		{"edit t x", "error 9"}, {"edit a x", "error 9"}, {"edit A x", "error 1"}, {"remove t", "error 6"}, {"edit s19 xy", "ok"}, {"list", sources},
		{"remove s00", "ok"}, {"edit s00 y", "ok"}, {"edit a x", "error 9"}, {"list", sources}, {"build 0 a", "error 6 a 0"}, {"build 0 s19", "error 3 s19 0"},
	}...))
}

// placedRows: sources of which each is refused in its own way, and what is told of it.
var placedRows = []struct{ source, base, told string }{
	{"bad reti|reti|wrong", "64", "3 bad 2"},
	{"deep |.include deep", "64", "10 deep 1"},
	{"far .space 100|.space 100|.space 100|jmp x", "64", "9 far 3"},
	{"glob |.global y", "64", "6 glob 0"},
	{"inc reti|.include bad", "64", "3 bad 2"},
	{"many .space 100|.space 100|.space 100||reti", "64", "9 many 4"},
	{"none |||.include x", "64", "6 none 3"},
	{"odd x: jmp x+1", "64", "8 odd 0"},
	{"twice a:|a:", "64", "7 twice 1"},
	{"two .word 7, 8", "65534", "9 two 0"},
	{"want reti|.word y", "64", "6 want 0"},
	{"way x: .space 100|jmp x+1226", "64", "8 way 0"},
}

// TestDeskPlaced: each code of Build, of each of the three lines that build, with its File and Line.
func TestDeskPlaced(t *testing.T) {
	var rows [][2]string
	for _, r := range placedRows {
		rows = append(rows, [2]string{"edit " + r.source, "ok"})
	}
	for _, word := range []string{"build", "show", "publish"} {
		asked := rows
		for _, r := range placedRows {
			name, _, _ := strings.Cut(r.source, " ")
			asked = append(asked, [2]string{fmt.Sprintf("%s %s %s", word, r.base, name), "error " + r.told})
		}
		for _, r := range [][2]string{
			{"1 two", "1 - 0"}, {"65535 bad", "1 - 0"}, {"65536 two", "1 - 0"}, {"999999999 two", "1 - 0"}, {"0 Two", "1 - 0"}, {"0 7", "1 - 0"}, {"0 aaaaaaaaaaaaaaaaaaaaa", "1 - 0"},
			{"1 missing", "1 - 0"}, {"0 missing", "6 missing 0"}, {"0 -", "1 - 0"},
		} {
			asked = append(asked, [2]string{word + " " + r[0], "error " + r[1]})
		}
		asked = append(asked, [][2]string{{"image", "image 0 0"}, {"build 65532 two", "made 1 7 8"}, {"publish 65532 two", "ok"}, {"image", "image 32 1"}}...)
		isAnswered(t, word, asked)
	}
}

// TestDeskLong: as many lines are gone through as may be.
func TestDeskLong(t *testing.T) {
	isAnswered(t, "MaxLines", [][2]string{
		{"edit e " + strings.Repeat("|", 4000), "ok"}, {"edit d " + strings.Repeat(".include e|", 5), "ok"},
		{"build 0 d", "error 9 e 3995"}, {"show 0 d", "error 9 e 3995"}, {"publish 0 d", "error 9 e 3995"},
		{"edit d " + strings.Repeat(".include e|", 4) + "reti", "ok"}, {"build 0 d", "made 1 4864"},
	})
}

// fullRows: a desk that has lines left, and a Log of so many bytes, with a source a of 300 words and an empty one b.
func fullRows(many int) [][2]string {
	big := ".space 100|.space 100|.space 99|.word 9"
	rows := [][2]string{{"edit a " + big, "ok"}, {"edit b ", "ok"}}
	log := edits("a", strings.ReplaceAll(big, "|", "\n")) + edits("b", "")
	image := publishes(hexMeant(0, append(make([]int64, 299), 9)))
	for range 4 {
		rows = append(rows, [2]string{"publish 0 a", "ok"})
		log += image
	}
	left := many - len(log)
	for text := left - 20; text < left; text++ {
		for _, name := range []string{"p", "pp"} {
			if len(edits(name, long(text))) == left {
				return append(rows, [2]string{"edit " + name + " " + strings.Repeat("x", text), "ok"})
			}
		}
	}
	return nil
}

// TestDeskFull: a Log that has just so much room.
func TestDeskFull(t *testing.T) {
	// Records of these bytes: to remove b takes 8, to edit b to nothing 9, to publish it 19.
	same(t, "bytes", []int{len(removes("b")), len(edits("b", "")), len(publishes(hexEnd))}, []int{8, 9, 19})
	for left, fits := range map[int][3]bool{0: {}, 7: {}, 8: {true}, 9: {true, true}, 18: {true, true}, 19: {true, true, true}, 20: {true, true, true}} {
		for i, r := range [][2]string{{"remove b", "error 9"}, {"edit b ", "error 9"}, {"publish 0 b", "error 9 - 0"}} {
			rows := fullRows(impl.MaxBytes - left)
			if rows == nil {
				t.Fatalf("no Log of MaxBytes less %d", left)
			}
			images, kept := "image 1668 4", impl.MaxBytes-left
			if fits[i] {
				r[1] = "ok"
				kept += []int{8, 9, 19}[i]
				if i == 2 {
					images = "image 12 5"
				}
			}
			rows = append(rows, r, [2]string{"image", images}, [2]string{"publish 0 a", "error 9 - 0"}, [2]string{"edit a " + strings.Repeat("y", 50), "error 9"}, [2]string{"image", images})
			rows = append(rows, [2]string{"crash 999999999", fmt.Sprint("kept ", kept)}, [2]string{"build 0 a", "made 1" + strings.Repeat(" 0", 299) + " 9"})
			isAnswered(t, fmt.Sprint(r, left), rows)
		}
	}
}

// TestDeskShow: what words are taken apart, cut off, or are none.
func TestDeskShow(t *testing.T) {
	isAnswered(t, "shown", [][2]string{
		{"edit a .word 0x4035", "ok"}, {"show 0 a", ".word 16437"},
		{"edit a .word 0x4035, 5, 0x40b1", "ok"}, {"show 4096 a", "mov #5, r5 | .word 16561"},
		{"edit a .word 0x40b2, 5", "ok"}, {"show 0 a", ".word 16562 | .word 5"},
		{"edit a .word 0x40b2, 5, 6", "ok"}, {"show 0 a", "mov #5, &6"},
		{"edit a ; nothing", "ok"}, {"show 0 a", ""}, {"show 65534 a", ""}, {"show 1 a", "error 1 - 0"}, {"show 65535 a", "error 1 - 0"},
		{"edit a |x:|", "ok"}, {"show 0 a", ""}, {"build 0 a", "made 1"},
		{"edit a x: mov.b @r5+, x(r1)|jmp x|.word x", "ok"}, {"show 0 a", "mov.b @r5+, 0(r1) | jmp $-4 | .word 0"}, {"show 512 a", "mov.b @r5+, 512(r1) | jmp $-4 | .word 512"},
		{"show 4864 a", "mov.b @r5+, 4864(r1) | jmp $-4 | reti"},
		{"edit a .space 3", "ok"}, {"show 0 a", ".word 0 | .word 0 | .word 0"}, {"show 65530 a", ".word 0 | .word 0 | .word 0"}, {"show 65532 a", "error 9 a 0"},
	})
	rows := [][2]string{{"edit a .space 100|.space 100|.space 99|reti", "ok"}, {"show 0 a", strings.Repeat(".word 0 | ", 299) + "reti"}, {"build 0 a", "made 1" + strings.Repeat(" 0", 299) + " 4864"}}
	isAnswered(t, "as many words as there may be", rows)
}

// TestDeskCache: what goes from it, and that neither show nor what is refused changes it.
func TestDeskCache(t *testing.T) {
	var rows [][2]string
	builds := func(i, made int) {
		rows = append(rows, [2]string{fmt.Sprint("build 0 m", i), fmt.Sprint("made ", made, " ", i)})
	}
	for i := range 9 {
		rows = append(rows, [2]string{fmt.Sprintf("edit m%d .word %d", i, i), "ok"})
	}
	for i := range 9 {
		builds(i, 1)
	}
	// The ninth took the place of the first; what is found stays where it stands, so the next one to go is m1.
	for i := 8; i >= 1; i-- {
		builds(i, 0)
	}
	builds(0, 1)
	builds(2, 0)
	builds(1, 1)
	builds(3, 0)
	builds(2, 1)
	builds(0, 0)
	isAnswered(t, "full", rows)
	isAnswered(t, "as it was", [][2]string{
		{"edit a .word 1", "ok"}, {"show 0 a", ".word 1"}, {"show 0 a", ".word 1"}, {"publish 0 a", "ok"}, {"build 0 a", "made 1 1"}, {"build 0 a", "made 0 1"},
		{"edit bad wrong", "ok"}, {"build 0 bad", "error 3 bad 0"}, {"build 0 a", "made 0 1"}, {"build 1 a", "error 1 - 0"}, {"build 0 a", "made 0 1"},
		{"edit two .word 1, 2", "ok"}, {"build 65534 two", "error 9 two 0"}, {"build 65532 two", "made 1 1 2"}, {"build 65534 two", "error 9 two 0"}, {"build 0 two", "made 0 1 2"},
		{"edit a .word 2", "ok"}, {"show 0 a", ".word 2"}, {"build 0 a", "made 1 2"}, {"edit a .word 1", "ok"}, {"show 0 a", ".word 1"}, {"build 0 a", "made 0 1"},
		{"edit other .word 1", "ok"}, {"build 0 other", "made 1 1"}, {"remove a", "ok"}, {"build 0 a", "error 6 a 0"}, {"edit a .word 2", "ok"}, {"build 0 a", "made 0 2"},
		{"crash 0", "kept 0"}, {"build 0 a", "error 6 a 0"}, {"edit a .word 2", "ok"}, {"build 64 a", "made 0 2"},
	})
	rows = rows[:17]
	for i := range 9 {
		rows = append(rows, [2]string{fmt.Sprint("show 0 m", i), fmt.Sprint(".word ", i)})
	}
	for i := range 8 {
		builds(i, 0)
	}
	isAnswered(t, "eight, and all are shown", rows)
}

// TestDeskCrash: what is lost, torn and kept.
func TestDeskCrash(t *testing.T) {
	// To edit a source of one letter to a text of one takes ten bytes, to remove it eight.
	same(t, "bytes", []int{len(edits("a", "x")), len(removes("a"))}, []int{10, 8})
	for _, c := range []struct {
		keep string
		kept int
		list string
	}{
		{"0", 10, "a=1"}, {"1", 10, "a=1"}, {"9", 10, "a=1"}, {"10", 20, "a=1 b=1"}, {"11", 20, "a=1 b=1"}, {"17", 20, "a=1 b=1"}, {"18", 28, "b=1"}, {"19", 28, "b=1"}, {"27", 28, "b=1"},
		{"28", 38, "b=1 c=1"}, {"29", 38, "b=1 c=1"}, {"999999999", 38, "b=1 c=1"},
	} {
		isAnswered(t, "kept "+c.keep, [][2]string{
			{"edit a x", "ok"}, {"sync", "synced"}, {"edit b x", "ok"}, {"remove a", "ok"}, {"edit c x", "ok"}, {"crash " + c.keep, fmt.Sprint("kept ", c.kept)}, {"list", "list " + c.list},
			{"crash 0", fmt.Sprint("kept ", c.kept)}, {"list", "list " + c.list}, {"edit d xyz", "ok"}, {"crash 11", fmt.Sprint("kept ", c.kept)}, {"edit d xyz", "ok"}, {"crash 12", fmt.Sprint("kept ", c.kept+12)},
			{"list", "list " + c.list + " d=3"},
		})
	}
	isAnswered(t, "nothing synced", [][2]string{
		{"edit a .word 5", "ok"}, {"publish 16 a", "ok"}, {"image", "image 28 1"}, {"crash 0", "kept 0"}, {"image", "image 0 0"}, {"list", "list"}, {"publish 16 a", "error 6 a 0"},
	})
	isAnswered(t, "an image synced", [][2]string{
		{"edit a .word 5", "ok"}, {"publish 16 a", "ok"}, {"sync", "synced"}, {"edit a .word 5, 6", "ok"}, {"publish 16 a", "ok"}, {"image", "image 32 2"}, {"crash 20", "kept 70"}, {"image", "image 28 1"},
		{"show 0 a", ".word 5 | .word 6"}, {"edit a ", "ok"}, {"list", "list a=0"}, {"crash 8", "kept 70"}, {"list", "list a=10"},
	})
}
