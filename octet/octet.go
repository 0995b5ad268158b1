// Package octet is layer 1: numbers in bytes, bytes against bytes, bytes as text. See shared/doc/01-octet.md.
package octet

import (
	"strings"

	"donjon/api"
)

// widest is how many bytes the greatest uint64 needs.
const widest = 8

// digits stand at the places that they count.
const digits = "0123456789abcdef"

// Put is the size bytes whose number is n, the highest first.
func Put(n uint64, size int) ([]byte, api.Errno) {
	if size < 1 || size > widest {
		return nil, api.ErrArg
	}
	b := make([]byte, size)
	for i := size - 1; i >= 0; i-- {
		b[i] = byte(n)
		n >>= 8
	}
	// What is left of n found no byte.
	if n != 0 {
		return nil, api.ErrRange
	}
	return b, api.OK
}

// Get is the number of one to eight bytes.
func Get(b []byte) (uint64, api.Errno) {
	if len(b) < 1 || len(b) > widest {
		return 0, api.ErrArg
	}
	n := uint64(0)
	for _, x := range b {
		n = n<<8 | uint64(x)
	}
	return n, api.OK
}

// Xor is a and b added bit by bit, without a carry.
func Xor(a, b []byte) ([]byte, api.Errno) {
	if len(a) != len(b) {
		return nil, api.ErrArg
	}
	c := make([]byte, len(a))
	for i := range a {
		c[i] = a[i] ^ b[i]
	}
	return c, api.OK
}

// Same tells whether a and b are the same bytes.
func Same(a, b []byte) bool {
	if len(a) != len(b) {
		return false
	}
	// All bytes are looked at: how long it takes must not tell where tags differ.
	differ := byte(0)
	for i, x := range a {
		differ |= x ^ b[i]
	}
	return differ == 0
}

// Nought tells whether no byte of b is other than 0.
func Nought(b []byte) bool {
	for _, x := range b {
		if x != 0 {
			return false
		}
	}
	return true
}

// Hex is the bytes as digits, two a byte.
func Hex(b []byte) string {
	t := make([]byte, 0, 2*len(b))
	for _, x := range b {
		t = append(t, digits[x>>4], digits[x&15])
	}
	return string(t)
}

// Unhex is the bytes that Hex told as s; at is the place of what is wrong with s.
func Unhex(s string) (b []byte, e api.Errno, at int) {
	for i := range len(s) {
		if value(s[i]) < 0 {
			return nil, api.ErrForm, i
		}
	}
	if len(s)%2 != 0 {
		return nil, api.ErrShort, len(s)
	}
	b = make([]byte, len(s)/2)
	for i := range b {
		b[i] = byte(value(s[2*i])<<4 | value(s[2*i+1]))
	}
	return b, api.OK, 0
}

// value is what a digit counts; it is below 0 for what is no digit.
func value(digit byte) int { return strings.IndexByte(digits, digit) }
