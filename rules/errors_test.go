// Package rules tests what holds in all layers: the errors, the limits, the calls, and the language that they are written in.
package rules

import (
	"errors"
	"math"
	"testing"

	"donjon/api"
)

func TestErrorsHaveTheirNumbers(t *testing.T) {
	for _, c := range []struct {
		e    api.Errno
		want int
	}{
		{api.OK, 0}, {api.ErrNil, 1}, {api.ErrArg, 2}, {api.ErrLong, 3}, {api.ErrShort, 4},
		{api.ErrForm, 5}, {api.ErrRange, 6}, {api.ErrNone, 7}, {api.ErrTwice, 8}, {api.ErrFull, 9},
		{api.ErrTag, 60}, {api.ErrIO, 80}, {api.ErrDown, 81}, {api.ErrSpent, 90}, {api.ErrDry, 91},
		{api.ErrHead, 100}, {api.ErrOrder, 120}, {api.ErrPage, 150}, {api.ErrFailed, 190}, {api.ErrTampered, 210},
		{api.ErrRight, 250}, {api.ErrSecret, 260}, {api.ErrOver, 261}, {api.ErrSnap, 262}, {api.ErrBusy, 263}, {api.ErrState, 264},
	} {
		if int(c.e) != c.want {
			t.Errorf("an error has the number %d; want %d", int(c.e), c.want)
		}
	}
}

func TestErrorsTellTheirNumbers(t *testing.T) {
	for _, c := range []struct {
		e    api.Errno
		want string
	}{
		{api.ErrForm, "error 5"},
		{api.OK, "error 0"},
		{api.ErrTag, "error 60"},
		{api.ErrState, "error 264"},
		{-1, "error -1"},
		{math.MaxInt32, "error 2147483647"},
	} {
		if got := c.e.Error(); got != c.want {
			t.Errorf("the error %d tells %q; want %q", int(c.e), got, c.want)
		}
	}
	if !errors.Is(api.ErrArg, api.ErrArg) || errors.Is(api.ErrArg, api.ErrNil) {
		t.Error("errors are not told apart")
	}
}

func TestLimits(t *testing.T) {
	for _, c := range []struct {
		name      string
		got, want int
	}{
		{"Block", api.Block, 256}, {"Sector", api.Sector, 64}, {"Head", api.Head, 16}, {"Tag", api.Tag, 16},
		{"Payload", api.Payload, 224}, {"MaxText", api.MaxText, 65536}, {"MinBlocks", api.MinBlocks, 8},
		{"MaxBlocks", api.MaxBlocks, 4096}, {"MaxKey", api.MaxKey, 32}, {"MaxInline", api.MaxInline, 64},
		{"MaxValue", api.MaxValue, 1024}, {"Piece", api.Piece, 208}, {"MaxLevel", api.MaxLevel, 30},
		{"RootSize", api.RootSize, 32}, {"DataSize", api.DataSize, 16}, {"MaxQuota", api.MaxQuota, 1000},
		{"MaxTenants", api.MaxTenants, 64}, {"MaxHandles", api.MaxHandles, 64}, {"SecretSize", api.SecretSize, 16},
		{"MaxOps", api.MaxOps, 100}, {"MaxScan", api.MaxScan, 100}, {"MaxEvents", api.MaxEvents, 500},
		{"MaxNumber", api.MaxNumber, 1 << 30}, {"MaxMasks", api.MaxMasks, 1000}, {"MaxScript", api.MaxScript, 1 << 20},
	} {
		if c.got != c.want {
			t.Errorf("%s is %d; want %d", c.name, c.got, c.want)
		}
	}
}
