package octet_test

import (
	"math"
	"strings"
	"testing"

	"donjon/api"
	"donjon/octet"
)

// P1.1 (Put)

func TestPutTellsTheBytes(t *testing.T) {
	for _, c := range []struct {
		n    uint64
		size int
		want string
	}{
		{258, 2, "\x01\x02"},
		{0, 1, "\x00"},
		{255, 1, "\xff"},
		{256, 2, "\x01\x00"},
		{1, 8, "\x00\x00\x00\x00\x00\x00\x00\x01"},
		{0, 8, "\x00\x00\x00\x00\x00\x00\x00\x00"},
		{0x0102030405060708, 8, "\x01\x02\x03\x04\x05\x06\x07\x08"},
		{0xfedcba98, 4, "\xfe\xdc\xba\x98"},
		{0xfedcba98, 5, "\x00\xfe\xdc\xba\x98"},
		{math.MaxUint64, 8, "\xff\xff\xff\xff\xff\xff\xff\xff"},
	} {
		b, e := octet.Put(c.n, c.size)
		if string(b) != c.want || e != api.OK {
			t.Errorf("Put(%d, %d) = %x, %v; want %x", c.n, c.size, b, e, c.want)
		}
	}
}

func TestPutAtEachSizesEnd(t *testing.T) {
	for size := 1; size <= 7; size++ {
		past := uint64(1) << (8 * size)
		b, e := octet.Put(past-1, size)
		if string(b) != strings.Repeat("\xff", size) || e != api.OK {
			t.Errorf("Put just below 256^%d = %x, %v", size, b, e)
		}
		for _, n := range []uint64{past, past + 1, math.MaxUint64} {
			if b, e := octet.Put(n, size); len(b) != 0 || e != api.ErrRange {
				t.Errorf("Put(%d, %d) = %x, %v; want ErrRange", n, size, b, e)
			}
		}
		b, e = octet.Put(past, size+1)
		if string(b) != "\x01"+strings.Repeat("\x00", size) || e != api.OK {
			t.Errorf("Put of 256^%d in a byte more = %x, %v", size, b, e)
		}
	}
}

func TestPutRefusesSizes(t *testing.T) {
	for _, size := range []int{0, 9, -1, 10, 16, 64, 256, 257, math.MinInt, math.MaxInt} {
		// ErrArg is named first: it comes also where the number would not fit.
		for _, n := range []uint64{0, 1, 256, math.MaxUint64} {
			if b, e := octet.Put(n, size); len(b) != 0 || e != api.ErrArg {
				t.Errorf("Put(%d, %d) = %x, %v; want ErrArg", n, size, b, e)
			}
		}
	}
}

// P1.2 (Get)

func TestGetTellsTheNumber(t *testing.T) {
	for _, c := range []struct {
		b    string
		want uint64
	}{
		{"\x01\x02", 258},
		{"\x00", 0},
		{"\xff", 255},
		{"\x00\x05", 5},
		{"\x05\x00", 1280},
		{"\x80\x00\x00\x00\x00\x00\x00\x00", 1 << 63},
		{"\x00\x00\x00\x00\x00\x00\x00\x00", 0},
		{"\x01\x02\x03\x04\x05\x06\x07", 0x01020304050607},
		{"\xff\xff\xff\xff\xff\xff\xff\xff", math.MaxUint64},
	} {
		if n, e := octet.Get([]byte(c.b)); n != c.want || e != api.OK {
			t.Errorf("Get(%x) = %d, %v; want %d", c.b, n, e, c.want)
		}
	}
}

func TestGetRefusesLengths(t *testing.T) {
	for _, b := range [][]byte{nil, {}, make([]byte, 9), []byte("\xff\xff\xff\xff\xff\xff\xff\xff\xff"), make([]byte, 256)} {
		if n, e := octet.Get(b); n != 0 || e != api.ErrArg {
			t.Errorf("Get(%x) = %d, %v; want ErrArg", b, n, e)
		}
	}
}

func TestGetReadsWhatPutWrote(t *testing.T) {
	for size := 1; size <= 8; size++ {
		for bit := range 8 * size {
			n := uint64(1)<<bit | uint64(bit)&0xff
			b, e := octet.Put(n, size)
			if len(b) != size || e != api.OK {
				t.Fatalf("Put(%d, %d) = %x, %v", n, size, b, e)
			}
			if back, e := octet.Get(b); back != n || e != api.OK {
				t.Errorf("Get(%x) = %d, %v; want %d", b, back, e, n)
			}
		}
	}
}

// P1.3 (Xor, Same, Nought)

func TestXor(t *testing.T) {
	for _, c := range []struct{ a, b, want string }{
		{"\x0f\x01", "\xf0\x01", "\xff\x00"},
		{"", "", ""},
		{"\x00", "\x00", "\x00"},
		{"\xaa", "\xff", "\x55"},
		{"\x03", "\x01", "\x02"},
		{"12345678", "12345678", "\x00\x00\x00\x00\x00\x00\x00\x00"},
		{"\x01\x02\x03\x04\x05\x06\x07\x08\x09", "\x10\x20\x30\x40\x50\x60\x70\x80\x90", "\x11\x22\x33\x44\x55\x66\x77\x88\x99"},
	} {
		x, e := octet.Xor([]byte(c.a), []byte(c.b))
		if string(x) != c.want || e != api.OK {
			t.Errorf("Xor(%x, %x) = %x, %v; want %x", c.a, c.b, x, e, c.want)
		}
		y, e := octet.Xor([]byte(c.b), []byte(c.a))
		if string(y) != c.want || e != api.OK {
			t.Errorf("Xor(%x, %x) = %x, %v; want %x", c.b, c.a, y, e, c.want)
		}
		if z, _ := octet.Xor(x, []byte(c.b)); string(z) != c.a {
			t.Errorf("Xor by %x twice makes %x of %x", c.b, z, c.a)
		}
	}
}

func TestXorIsBitByBit(t *testing.T) {
	for a := range 256 {
		for b := range 256 {
			want := byte(0)
			for bit := range 8 {
				if a>>bit&1 != b>>bit&1 {
					want |= 1 << bit
				}
			}
			x, e := octet.Xor([]byte{byte(a)}, []byte{byte(b)})
			if e != api.OK || len(x) != 1 || x[0] != want {
				t.Fatalf("Xor(%02x, %02x) = %x, %v; want %02x", a, b, x, e, want)
			}
		}
	}
}

func TestXorRefusesUnlikeLengths(t *testing.T) {
	lengths := []int{0, 1, 2, 8, 9}
	for _, m := range lengths {
		for _, n := range lengths {
			if m == n {
				continue
			}
			if x, e := octet.Xor(make([]byte, m), make([]byte, n)); len(x) != 0 || e != api.ErrArg {
				t.Errorf("Xor of %d bytes and %d = %x, %v; want ErrArg", m, n, x, e)
			}
		}
	}
	if x, e := octet.Xor(nil, []byte{1}); len(x) != 0 || e != api.ErrArg {
		t.Errorf("Xor of nil and a byte = %x, %v; want ErrArg", x, e)
	}
}

func TestSame(t *testing.T) {
	for _, c := range []struct {
		a, b []byte
		want bool
	}{
		{nil, nil, true},
		{nil, []byte{}, true},
		{[]byte{}, nil, true},
		{[]byte{0}, nil, false},
		{nil, []byte{0}, false},
		{[]byte{7}, []byte{7}, true},
		{[]byte{7}, []byte{6}, false},
		{[]byte{1, 2}, []byte{1, 2, 0}, false},
		{[]byte{1, 2, 0}, []byte{1, 2}, false},
		{[]byte{1, 2}, []byte{2, 1}, false},
		{[]byte("12345678"), []byte("12345678"), true},
		{[]byte("123456789"), []byte("123456789"), true},
	} {
		if got := octet.Same(c.a, c.b); got != c.want {
			t.Errorf("Same(%x, %x) = %v", c.a, c.b, got)
		}
	}
}

func TestSameSeesEachBit(t *testing.T) {
	for bit := range 9 * 8 {
		a, b := []byte("abcdefghi"), []byte("abcdefghi")
		b[bit/8] ^= 1 << (bit % 8)
		if octet.Same(a, b) || octet.Same(b, a) {
			t.Errorf("Same does not see the bit %d", bit)
		}
	}
}

func TestSameSeesBytesThatDifferAlike(t *testing.T) {
	for i := range 9 {
		for j := range i {
			for _, x := range []byte{1, 0x55, 0x80, 0xff} {
				a, b := []byte("abcdefghi"), []byte("abcdefghi")
				b[i], b[j] = b[i]^x, b[j]^x
				if octet.Same(a, b) || octet.Same(b, a) {
					t.Errorf("Same does not see that %d and %d differ by %x", i, j, x)
				}
			}
		}
	}
}

func TestNought(t *testing.T) {
	for _, n := range []int{0, 1, 8, 9, 256} {
		if !octet.Nought(make([]byte, n)) {
			t.Errorf("Nought of %d noughts is false", n)
		}
		for at := range n {
			for _, x := range []byte{1, 0x10, 0x80, 0xff} {
				b := make([]byte, n)
				b[at] = x
				if octet.Nought(b) {
					t.Errorf("Nought of %d bytes with %02x at %d is true", n, x, at)
				}
			}
		}
	}
	if !octet.Nought(nil) {
		t.Error("Nought of nil is false")
	}
}

// P1.4 (Hex, Unhex)

func TestHex(t *testing.T) {
	for _, c := range []struct {
		b    []byte
		want string
	}{
		{nil, ""},
		{[]byte{}, ""},
		{[]byte{0x00, 0xaf}, "00af"},
		{[]byte{0x01, 0x02}, "0102"},
		{[]byte{0xf0}, "f0"},
		{[]byte{0x01, 0x23, 0x45, 0x67, 0x89, 0xab, 0xcd, 0xef}, "0123456789abcdef"},
		{[]byte{0xfe, 0xdc, 0xba, 0x98, 0x76, 0x54, 0x32, 0x10, 0xff}, "fedcba9876543210ff"},
	} {
		if s := octet.Hex(c.b); s != c.want {
			t.Errorf("Hex(%v) = %q; want %q", c.b, s, c.want)
		}
		b, e, at := octet.Unhex(c.want)
		if string(b) != string(c.b) || e != api.OK || at != 0 {
			t.Errorf("Unhex(%q) = %x, %v, %d", c.want, b, e, at)
		}
	}
}

func TestHexAndUnhexOfEachByte(t *testing.T) {
	const of16 = "0123456789abcdef"
	for high := range 16 {
		for low := range 16 {
			x, s := byte(16*high+low), of16[high:high+1]+of16[low:low+1]
			if got := octet.Hex([]byte{x}); got != s {
				t.Errorf("Hex(%d) = %q; want %q", x, got, s)
			}
			if b, e, at := octet.Unhex(s); len(b) != 1 || b[0] != x || e != api.OK || at != 0 {
				t.Errorf("Unhex(%q) = %v, %v, %d; want %d", s, b, e, at, x)
			}
		}
	}
}

func TestUnhexRefusesEachOtherByte(t *testing.T) {
	for x := range 256 {
		if strings.IndexByte("0123456789abcdef", byte(x)) >= 0 {
			continue
		}
		for at := range 18 {
			s := []byte("0123456789abcdef01")
			s[at] = byte(x)
			b, e, got := octet.Unhex(string(s))
			if len(b) != 0 || e != api.ErrForm || got != at {
				t.Errorf("Unhex(%q) = %x, %v, %d; want ErrForm %d", s, b, e, got, at)
			}
		}
	}
}

func TestUnhexTellsWhatIsWrong(t *testing.T) {
	for _, c := range []struct {
		s    string
		want api.Errno
		at   int
	}{
		{"00aF", api.ErrForm, 3},
		{"AB", api.ErrForm, 0},
		{"a b0", api.ErrForm, 1},
		{"0x12", api.ErrForm, 1},
		{"1g2g", api.ErrForm, 1},
		{"12\xc3\xa9", api.ErrForm, 2},
		{"\xff", api.ErrForm, 0},
		{"abc", api.ErrShort, 3},
		{"0", api.ErrShort, 1},
		{"01234567f", api.ErrShort, 9},
		// A byte that is no digit comes first, wherever it stands.
		{"g", api.ErrForm, 0},
		{"abG", api.ErrForm, 2},
		{"0G0", api.ErrForm, 1},
		{"-", api.ErrForm, 0},
	} {
		b, e, at := octet.Unhex(c.s)
		if len(b) != 0 || e != c.want || at != c.at {
			t.Errorf("Unhex(%q) = %x, %v, %d; want %v, %d", c.s, b, e, at, c.want, c.at)
		}
	}
}

// R3 (memory)

// roomy is bytes in the midst of longer ones, and these.
func roomy(s string) (b, all []byte) {
	all = []byte("<<" + s + ">>>>>>>>")
	return all[2 : 2+len(s)], all
}

func TestWhatIsHandedInStays(t *testing.T) {
	a, allA := roomy("\x01\x02\x03\x04\x05\x06\x07\x08")
	b, allB := roomy("\x10\x20\x30\x40\x50\x60\x70\x80")
	wasA, wasB := string(allA), string(allB)
	n, _ := octet.Get(a)
	x, _ := octet.Xor(a, b)
	s := octet.Hex(a)
	octet.Same(a, b)
	octet.Nought(a)
	if string(allA) != wasA || string(allB) != wasB {
		t.Error("a call changed what it was handed")
	}
	clear(allA)
	clear(allB)
	if n != 0x0102030405060708 || string(x) != "\x11\x22\x33\x44\x55\x66\x77\x88" || s != "0102030405060708" {
		t.Error("an answer shares memory with what was handed in")
	}
}

func TestAnswersAreNewMemory(t *testing.T) {
	a, allA := roomy("\x0f\x01")
	was := string(allA)
	answers := []func() []byte{
		func() []byte { b, _ := octet.Put(258, 2); return b },
		func() []byte { b, _ := octet.Xor(a, []byte{0, 0}); return b },
		func() []byte { b, _, _ := octet.Unhex("0f01"); return b },
	}
	for i, answer := range answers {
		first, second := answer(), answer()
		want := string(second)
		first = first[:cap(first)]
		for j := range first {
			first[j] = ^first[j]
		}
		if string(second) != want || string(answer()) != want {
			t.Errorf("answers of call %d share memory", i)
		}
	}
	if string(allA) != was {
		t.Error("an answer shares memory with what was handed in")
	}
}
