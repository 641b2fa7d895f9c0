package tests

import (
	"fmt"
	"slices"

	"loop.example/g00367/impl"
)

// taker takes words apart in another way than the program does, bit by bit by the document's words.
type taker struct {
	behind []int64
}

func (k *taker) next() int64 {
	n := k.behind[0]
	k.behind = k.behind[1:]
	return n
}

// plain: an operand that is no OpImmediate.
func (k *taker) plain(as, reg int64) string {
	switch {
	case as == 0:
		return fmt.Sprintf("r%d", reg)
	case as == 1 && reg == 2:
		return fmt.Sprintf("&%d", k.next())
	case as == 1:
		return fmt.Sprintf("%d(r%d)", k.next(), reg)
	case as == 2:
		return fmt.Sprintf("@r%d", reg)
	}
	return fmt.Sprintf("@r%d+", reg)
}

func (k *taker) src(as, reg int64) string {
	switch {
	case reg == 3:
		return []string{"#0", "#1", "#2", "#65535"}[as]
	case reg == 2 && as >= 2:
		return []string{"#4", "#8"}[as-2]
	case reg == 0 && as == 3:
		n := k.next()
		if slices.Contains(shorts, n) {
			return fmt.Sprintf("##%d", n)
		}
		return fmt.Sprintf("#%d", n)
	}
	return k.plain(as, reg)
}

// insnWritten: how the Insn is written that has just these words.
func insnWritten(words []int64) string {
	first, k := words[0], &taker{words[1:]}
	dot := ""
	if first>>6&1 == 1 {
		dot = ".b"
	}
	switch {
	case first >= 0x4000:
		src := k.src(first>>4&3, first>>8&15)
		return twoOps[first>>12-4] + dot + " " + src + ", " + k.plain(first>>7&1, first&15)
	case first >= 0x2000:
		jump := first & 1023
		if jump >= 512 {
			jump -= 1024
		}
		return fmt.Sprintf("%s $%+d", jumpOps[first>>10&7], 2*jump+2)
	case first == 4864:
		return "reti"
	}
	return oneOps[first>>7&7] + dot + " " + k.src(first>>4&3, first&15)
}

// rowsMeant minds no limit.
func rowsMeant(words []int64, base int64) []impl.Row {
	var rows []impl.Row
	for n := 0; n < len(words); {
		row := impl.Row{At: (base + 2*int64(n)) % 65536, Text: fmt.Sprintf(".word %d", words[n])}
		many := behindFirst(words[n]) + 1
		if many > 0 && n+many <= len(words) {
			row.Text = insnWritten(words[n : n+many])
		}
		rows = append(rows, row)
		if row.Text[0] == '.' {
			many = 1
		}
		n += many
	}
	return rows
}

// listed: the Texts, each with a line feed; it minds no limit.
func listed(rows []impl.Row) string {
	out := ""
	for _, row := range rows {
		out += row.Text + "\n"
	}
	return out
}

// listingMeant minds that of bytes alone.
func listingMeant(words []int64) string {
	out := listed(rowsMeant(words, 0))
	if len(out) > 4000 {
		return ""
	}
	return out
}

// anyWords: words at random, among them many that begin an Insn, short ones, and such as are no Insn.
func (d *dice) anyWords(many int) []int64 {
	words := make([]int64, many)
	for i := range words {
		switch d.below(8) {
		case 0:
			words[i] = shorts[d.below(len(shorts))]
		case 1:
			words[i] = handMade[d.below(len(handMade))].words[0]
		case 2:
			words[i] = int64(0x1000 + d.below(0x400))
		case 3:
			// Src is a word of its own, and so may be Dst.
			words[i] = int64(0x4030 + 0x1000*d.below(12) + 0x40*d.below(4) + d.below(16))
		default:
			words[i] = int64(d.below(65536))
		}
	}
	return words
}
