package tests

import (
	"fmt"
	"slices"
	"strings"
	"testing"

	"loop.example/g00367/impl"
)

// threeDigits: so many words whose line has ten bytes each.
func threeDigits(many int) []int64 {
	out := make([]int64, many)
	for i := range out {
		out[i] = int64(100 + i)
	}
	return out
}

func isListed(t *testing.T, what string, words []int64, bytes int) {
	t.Helper()
	for _, base := range []int64{0, 100, 65534} {
		text := impl.Listing(words, base)
		same(t, what, text, listed(rowsMeant(words, 0)))
		same(t, what+": bytes", len(text), bytes)
	}
}

func isTooLong(t *testing.T, what string, words []int64, bytes int) {
	t.Helper()
	same(t, what+": bytes", len(listed(rowsMeant(words, 0))), bytes)
	for _, base := range []int64{0, 100, 65534} {
		same(t, what, impl.Listing(words, base), "")
		same(t, what+": its rows", impl.Dis(words, base), rowsMeant(words, base))
	}
}

func TestListingLimit(t *testing.T) {
	words := threeDigits(400)
	isListed(t, "one less", append(slices.Clone(words[:399]), 99), 3999)
	isListed(t, "as long as may be", words, 4000)
	for _, place := range []int{0, 1, 200, 398, 399} {
		longer := slices.Clone(words)
		longer[place] = 1000
		isTooLong(t, fmt.Sprintf("a digit more in row %d", place), longer, 4001)
	}
	isTooLong(t, "far too long", slices.Repeat([]int64{1234}, 400), 4400)
	isTooLong(t, "too long by one row, which is short", append(slices.Repeat([]int64{1234}, 363), 1, 0), 363*11+16)
}

// TestListingLimitOfInsns: the longest lines, of three words each.
func TestListingLimitOfInsns(t *testing.T) {
	long := []int64{0x65df, 65535, 65534}
	same(t, "one", impl.Listing(long, 0), "addc.b 65535(r5), 65534(r15)\n")
	long[0] = 0x6fdf
	same(t, "one", impl.Listing(long, 0), "addc.b 65535(r15), 65534(r15)\n")
	many := slices.Repeat(long, 133)
	isListed(t, "399 words", many, 3990)
	isListed(t, "as long as may be", append(slices.Clone(many), 999), 4000)
	isTooLong(t, "one more", append(slices.Clone(many), 1000), 4001)
	// The last one is cut off.
	isListed(t, "its first word alone", append(slices.Clone(many[:396]), 0x6fdf), 132*30+12)
	isListed(t, "two of its words", append(slices.Clone(many[:393]), 0x6fdf, 1), 131*30+12+8)
}

// TestListingLines: each row has its line feed behind it, the last one too, and no At.
func TestListingLines(t *testing.T) {
	d := dice{61}
	for range 2000 {
		words := d.anyWords(1 + d.below(100))
		base := int64(2 * d.below(32768))
		text, rows := impl.Listing(words, base), impl.Dis(words, base)
		same(t, fmt.Sprintf("%v at %d", words, base), text, listed(rows))
		same(t, fmt.Sprintf("%v at %d: line feeds", words, base), strings.Count(text, "\n"), len(rows))
		same(t, fmt.Sprintf("%v at another base", words), impl.Listing(words, 0), text)
	}
}
