package tests

import (
	"reflect"
	"strings"
	"testing"
	"unsafe"
)

// same fails the test unless both are alike in every field.
func same(t *testing.T, what string, got any, want any) {
	t.Helper()
	if !reflect.DeepEqual(got, want) {
		t.Errorf("%s: got %+v, want %+v", what, got, want)
	}
}

// dice is a row of numbers that is the same on every run.
type dice struct {
	state uint64
}

func (d *dice) next() uint64 {
	d.state = d.state*6364136223846793005 + 1442695040888963407
	return d.state>>33 ^ d.state
}

func (d *dice) below(n int) int {
	return int((d.next() >> 8) % uint64(n))
}

func (d *dice) text(many int) string {
	out := make([]byte, many)
	for i := range out {
		out[i] = byte(d.next() >> 20)
	}
	return string(out)
}

// long is a text of so many bytes in which no two near each other are alike.
func long(many int) string {
	var b strings.Builder
	for i := range many {
		b.WriteByte(byte(i*7 + i/256))
	}
	return b.String()
}

// sharesMemory tells whether two texts lie in the same bytes of memory.
func sharesMemory(a, b string) bool {
	if a == "" || b == "" {
		return false
	}
	x := uintptr(unsafe.Pointer(unsafe.StringData(a)))
	y := uintptr(unsafe.Pointer(unsafe.StringData(b)))
	return x < y+uintptr(len(b)) && y < x+uintptr(len(a))
}
