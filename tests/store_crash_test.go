package tests

import (
	"fmt"
	"math"
	"strings"
	"testing"

	"loop.example/g00367/impl"
)

// keeps: what may be kept of so many bytes that are not synced, from below 0 to beyond all.
func keeps(many int64) []int64 {
	out := []int64{math.MinInt64, math.MinInt64 + 1, -1 << 32, -2}
	for keep := int64(-1); keep <= many+2; keep++ {
		out = append(out, keep)
	}
	return append(out, 8000, 1<<32, math.MaxInt64-1, math.MaxInt64)
}

// isSynced, isCrashed and isRecovered ask the program, and hold it against the second workshop.
func isSynced(t *testing.T, what string, s impl.Shop) impl.Shop {
	t.Helper()
	got := impl.ShopSync(s)
	same(t, what+": synced", got, syncMeant(s))
	return got
}

func isCrashed(t *testing.T, what string, s impl.Shop, keep int64) impl.Shop {
	t.Helper()
	got := impl.ShopCrash(s, keep)
	same(t, fmt.Sprint(what, ": crashed ", keep), got, crashMeant(s, keep))
	return got
}

func isRecovered(t *testing.T, what string, s impl.Shop) impl.Shop {
	t.Helper()
	got := impl.ShopRecover(s)
	same(t, what+": recovered", got, recoverMeant(s))
	return got
}

func TestShopSync(t *testing.T) {
	log := strings.Join(threeKinds(), "")
	many := int64(len(log))
	for synced := range many + 1 {
		s := impl.Shop{Log: log, Synced: synced}
		same(t, fmt.Sprint(synced), isSynced(t, fmt.Sprint(synced), s), impl.Shop{Log: log, Synced: many})
	}
	same(t, "empty", isSynced(t, "empty", impl.Shop{}), impl.Shop{})
	most := padded(log, impl.MaxBytes)
	same(t, "MaxBytes", isSynced(t, "MaxBytes", impl.Shop{Log: most}), impl.Shop{Log: most, Synced: impl.MaxBytes})
	for what, wrong := range wrongShops() {
		same(t, what, isSynced(t, what, wrong), wrong)
	}
}

func TestShopCrash(t *testing.T) {
	text := "any text at all"
	many := int64(len(text))
	for synced := range many + 1 {
		for _, keep := range keeps(many - synced) {
			s := impl.Shop{Log: text, Synced: synced}
			kept := synced + min(max(keep, 0), many-synced)
			same(t, fmt.Sprint(synced, keep), isCrashed(t, "text", s, keep), impl.Shop{Log: text[:kept], Synced: kept})
		}
	}
	same(t, "empty", isCrashed(t, "empty", impl.Shop{}, 5), impl.Shop{})
	for _, synced := range []int64{math.MinInt64, -many, -1, many + 1, many + 2, 8000, math.MaxInt64} {
		for _, keep := range keeps(many) {
			wrong := impl.Shop{Log: text, Synced: synced}
			same(t, "as it was", isCrashed(t, fmt.Sprint(synced), wrong, keep), wrong)
		}
	}
	for what, wrong := range wrongShops() {
		for _, keep := range []int64{math.MinInt64, -1, 0, 1, 7, 9000, math.MaxInt64} {
			isCrashed(t, what, wrong, keep)
		}
	}
}

// TestShopCrashLong: a Log of more than MaxBytes bytes is no other for a crash than any.
func TestShopCrashLong(t *testing.T) {
	text := long(impl.MaxBytes + 50)
	for _, synced := range []int64{0, 1, impl.MaxBytes, impl.MaxBytes + 1, impl.MaxBytes + 50} {
		s := impl.Shop{Log: text, Synced: synced}
		same(t, "none more", isCrashed(t, "long", s, 0), impl.Shop{Log: text[:synced], Synced: synced})
		same(t, "all", isCrashed(t, "long", s, 9000), impl.Shop{Log: text, Synced: impl.MaxBytes + 50})
		isCrashed(t, "long", s, 20)
		isCrashed(t, "long", s, -20)
	}
	same(t, "beyond", isCrashed(t, "long", impl.Shop{Log: text, Synced: impl.MaxBytes + 51}, 0), impl.Shop{Log: text, Synced: impl.MaxBytes + 51})
}

func TestShopRecover(t *testing.T) {
	log := strings.Join(threeKinds(), "")
	many := int64(len(log))
	whole := impl.Shop{Log: log, Synced: many}
	for _, synced := range []int64{math.MinInt64, -1, 0, 5, many, many + 1, math.MaxInt64} {
		same(t, fmt.Sprint(synced), isRecovered(t, fmt.Sprint(synced), impl.Shop{Log: log, Synced: synced}), whole)
		for what, no := range noRecords {
			torn := impl.Shop{Log: log + no + edits("z", ""), Synced: synced}
			if what != "remove, what is not there" {
				same(t, what, isRecovered(t, what, torn), whole)
			}
			same(t, what+", alone", isRecovered(t, what, impl.Shop{Log: no, Synced: synced}), impl.Shop{})
		}
	}
	for at := range log {
		got := isRecovered(t, fmt.Sprint(at), impl.Shop{Log: log[:at], Synced: 3})
		same(t, "right", impl.ShopRight(got), true)
	}
	most := padded(log, impl.MaxBytes)
	same(t, "MaxBytes", isRecovered(t, "MaxBytes", impl.Shop{Log: most}), impl.Shop{Log: most, Synced: impl.MaxBytes})
	torn := impl.Shop{Log: padded(log, impl.MaxBytes-1) + "x", Synced: 9000}
	same(t, "MaxBytes, torn", isRecovered(t, "torn", torn), impl.Shop{Log: torn.Log[:impl.MaxBytes-1], Synced: impl.MaxBytes - 1})
	for _, synced := range []int64{-1, 0, impl.MaxBytes, impl.MaxBytes + 1, impl.MaxBytes + 2} {
		more := impl.Shop{Log: padded(log, impl.MaxBytes+1), Synced: synced}
		same(t, "one more", isRecovered(t, "one more", more), more)
	}
}

func TestShopNewMemory(t *testing.T) {
	log := strings.Join(threeKinds(), "")
	for _, s := range []impl.Shop{{Log: log}, {Log: log, Synced: -1}, {Log: log + "x"}, {Log: log + "x", Synced: 9999}, {Log: padded(log, 8001)}, {Log: padded(log, 8001), Synced: -1}} {
		for what, got := range map[string]impl.Shop{"sync": impl.ShopSync(s), "crash": impl.ShopCrash(s, 50), "crash, all": impl.ShopCrash(s, 9999), "recover": impl.ShopRecover(s)} {
			if got.Log == "" || sharesMemory(got.Log, s.Log) {
				t.Errorf("%s of %+v: %+v lies in what was handed in", what, s, got)
			}
		}
	}
}
