// Package sample is what the tests of many layers are made of: bytes of no order, memory written over, errors held against others. No layer calls it.
package sample

import (
	"strings"

	"donjon/api"
	"donjon/octet"
)

// Test is what is needed of a test here. (It is a *testing.T, or *testing.B; package testing is for tests alone to import.)
type Test interface {
	Helper()
	Errorf(format string, args ...any)
	Fatalf(format string, args ...any)
}

// Mingled is n bytes of no order, other ones for each start.
func Mingled(start uint32, n int) []byte {
	b := make([]byte, n)
	for i := range b {
		start = start*1664525 + 1013904223
		b[i] = byte(start >> 24)
	}
	return b
}

// Wreck changes each byte of b and of the room behind it.
func Wreck(b []byte) {
	b = b[:cap(b)]
	for i := range b {
		b[i] = ^b[i]
	}
}

// Raw is the bytes that the digits tell; blanks are passed over.
func Raw(t Test, digits string) []byte {
	t.Helper()
	b, e, at := octet.Unhex(strings.ReplaceAll(digits, " ", ""))
	if e != api.OK {
		t.Fatalf("%q is not digits: %v at %d of them", digits, e, at)
	}
	return b
}

// Is holds it that a call answers the error want.
func Is(t Test, what string, e, want api.Errno) {
	t.Helper()
	if e != want {
		t.Errorf("%s: %v; want %v", what, e, want)
	}
}
