package sample_test

import (
	"bytes"
	"fmt"
	"slices"
	"testing"

	"donjon/api"
	"donjon/sample"
)

// A teller keeps what it is told in place of failing.
type teller struct {
	errors, ends []string
}

func (t *teller) Helper() {}

func (t *teller) Errorf(format string, args ...any) {
	t.errors = append(t.errors, fmt.Sprintf(format, args...))
}

func (t *teller) Fatalf(format string, args ...any) {
	t.ends = append(t.ends, fmt.Sprintf(format, args...))
}

func TestMingled(t *testing.T) {
	seen := map[string]uint32{}
	for start := range uint32(1000) {
		b := sample.Mingled(start, 16)
		if other, ok := seen[string(b)]; ok || len(b) != 16 {
			t.Errorf("%d bytes of the start %d are those of %d", len(b), start, other)
		}
		seen[string(b)] = start
		if !bytes.Equal(b[:9], sample.Mingled(start, 9)) {
			t.Errorf("the bytes of the start %d are others when fewer are asked", start)
		}
	}
	if b := sample.Mingled(1, 0); len(b) != 0 {
		t.Errorf("no bytes are %x", b)
	}
}

func TestWreck(t *testing.T) {
	room := []byte{1, 2, 3, 4, 5}
	sample.Wreck(room[1:2:4])
	if want := []byte{1, 253, 252, 251, 5}; !bytes.Equal(room, want) {
		t.Errorf("behind Wreck of one byte with room for two more: %d; want %d", room, want)
	}
	sample.Wreck(nil)
}

func TestRaw(t *testing.T) {
	var told teller
	if b := sample.Raw(&told, " 00f f1a"); !bytes.Equal(b, []byte{0, 255, 26}) || len(told.ends) != 0 {
		t.Errorf("Raw: %x, told %q", b, told.ends)
	}
	for _, digits := range []string{"0", "0g", "FF", "00\t00"} {
		told = teller{}
		if sample.Raw(&told, digits); len(told.ends) != 1 {
			t.Errorf("Raw(%q) has not ended the test: %q", digits, told.ends)
		}
	}
}

func TestIs(t *testing.T) {
	var told teller
	sample.Is(&told, "this", api.OK, api.OK)
	sample.Is(&told, "that", api.ErrArg, api.ErrArg)
	sample.Is(&told, "other", api.OK, api.ErrArg)
	sample.Is(&told, "another", api.ErrNil, api.OK)
	if want := []string{"other: error 0; want error 2", "another: error 1; want error 0"}; !slices.Equal(told.errors, want) {
		t.Errorf("Is has told %q; want %q", told.errors, want)
	}
}
