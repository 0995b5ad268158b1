package galois_test

import (
	"math"
	"testing"

	"donjon/galois"
)

// modulus is x^8 + x^4 + x^3 + x + 1.
const modulus = 0x11b

// product is the chapter's product, reckoned by its words: multiplied out, then brought below x^8 from the top.
func product(a, b byte) byte {
	p := 0
	for i := range 8 {
		if b>>i&1 == 1 {
			p ^= int(a) << i
		}
	}
	for i := 14; i >= 8; i-- {
		if p>>i&1 == 1 {
			p ^= modulus << (i - 8)
		}
	}
	return byte(p)
}

// substitute is the chapter's, bit by bit, of the element whose inverse is b.
func substitute(b byte) byte {
	s := byte(0)
	for i := range 8 {
		bit := byte(0x63) >> i & 1
		for _, j := range []int{i, i + 4, i + 5, i + 6, i + 7} {
			bit ^= b >> (j % 8) & 1
		}
		s |= bit << i
	}
	return s
}

// mixed is the products of c with the rows.
func mixed(rows [4][4]byte, c [4]byte) [4]byte {
	var sums [4]byte
	for i, row := range rows {
		sums[i] = product(row[0], c[0]) ^ product(row[1], c[1]) ^ product(row[2], c[2]) ^ product(row[3], c[3])
	}
	return sums
}

var (
	mixing   = [4][4]byte{{2, 3, 1, 1}, {1, 2, 3, 1}, {1, 1, 2, 3}, {3, 1, 1, 2}}
	unmixing = [4][4]byte{{14, 11, 13, 9}, {9, 14, 11, 13}, {13, 9, 14, 11}, {11, 13, 9, 14}}
)

// some columns: of noughts, of one element alone in each place, and of many others.
func columns() [][4]byte {
	list := [][4]byte{{}, {1, 1, 1, 1}, {0xff, 0xff, 0xff, 0xff}, {0x80, 0x80, 0x80, 0x80}, {0xdb, 0x13, 0x53, 0x45}}
	for place := range 4 {
		for x := 1; x < 256; x++ {
			var c [4]byte
			c[place] = byte(x)
			list = append(list, c)
		}
	}
	n := uint32(1)
	for range 2000 {
		n = n*1664525 + 1013904223
		list = append(list, [4]byte{byte(n >> 24), byte(n >> 19), byte(n >> 11), byte(n >> 5)})
	}
	return list
}

// P2.1 (Mul)

func TestMulExamples(t *testing.T) {
	for _, c := range []struct{ a, b, want byte }{
		{0x57, 0x83, 0xc1},
		{0x57, 0x13, 0xfe},
		{0x02, 0x80, 0x1b},
		{0x80, 0x02, 0x1b},
		{0x80, 0x80, 0x9a},
		{0xff, 0xff, 0x13},
		{0x02, 0xff, 0xe5},
	} {
		if p := galois.Mul(c.a, c.b); p != c.want {
			t.Errorf("Mul(%02x, %02x) = %02x; want %02x", c.a, c.b, p, c.want)
		}
	}
}

func TestMulByNoneOneAndTwo(t *testing.T) {
	for x := range 256 {
		a := byte(x)
		if p, q := galois.Mul(a, 0), galois.Mul(0, a); p != 0 || q != 0 {
			t.Errorf("Mul of %02x and 0 = %02x, %02x", a, p, q)
		}
		if p, q := galois.Mul(a, 1), galois.Mul(1, a); p != a || q != a {
			t.Errorf("Mul of %02x and 1 = %02x, %02x", a, p, q)
		}
		want := 2 * x
		if x >= 128 {
			want ^= modulus
		}
		if p, q := galois.Mul(a, 2), galois.Mul(2, a); p != byte(want) || q != byte(want) {
			t.Errorf("Mul of %02x and 2 = %02x, %02x; want %02x", a, p, q, want)
		}
	}
}

func TestMulOfAllPairs(t *testing.T) {
	for a := range 256 {
		for b := range 256 {
			if p, want := galois.Mul(byte(a), byte(b)), product(byte(a), byte(b)); p != want {
				t.Fatalf("Mul(%02x, %02x) = %02x; want %02x", a, b, p, want)
			}
		}
	}
}

// P2.1 (Inv)

func TestInvExamples(t *testing.T) {
	for _, c := range []struct{ a, want byte }{{0x53, 0xca}, {0xca, 0x53}, {0, 0}, {1, 1}, {2, 0x8d}} {
		if b := galois.Inv(c.a); b != c.want {
			t.Errorf("Inv(%02x) = %02x; want %02x", c.a, b, c.want)
		}
	}
}

func TestInvMakesOne(t *testing.T) {
	for a := 1; a < 256; a++ {
		if b := galois.Inv(byte(a)); product(byte(a), b) != 1 || galois.Mul(byte(a), b) != 1 {
			t.Errorf("Inv(%02x) = %02x, whose product with it is not 1", a, b)
		}
	}
}

// P2.1 (Power)

func TestPowerExamples(t *testing.T) {
	for _, c := range []struct {
		a    byte
		n    uint32
		want byte
	}{
		{3, 255, 1},
		{0, 0, 1},
		{0, 1, 0},
		{0, 2, 0},
		{2, 8, 0x1b},
		{2, 9, 0x36},
		{3, 2, 5},
	} {
		if p := galois.Power(c.a, c.n); p != c.want {
			t.Errorf("Power(%02x, %d) = %02x; want %02x", c.a, c.n, p, c.want)
		}
	}
}

func TestPowerAtTheEnds(t *testing.T) {
	for _, n := range []uint32{1, 254, 255, 256, math.MaxInt32, math.MaxUint32} {
		if p := galois.Power(0, n); p != 0 {
			t.Errorf("Power(0, %d) = %02x", n, p)
		}
		if p := galois.Power(1, n); p != 1 {
			t.Errorf("Power(1, %d) = %02x", n, p)
		}
	}
	for x := 1; x < 256; x++ {
		a := byte(x)
		// 2^32 - 1 is a multiple of 255; what is one less leads to the inverse.
		for n, want := range map[uint32]byte{
			0: 1, 1: a, 254: galois.Inv(a), 255: 1, 256: a, math.MaxUint32: 1, math.MaxUint32 - 1: galois.Inv(a), 1 << 31: galois.Power(a, 1<<31%255),
		} {
			if p := galois.Power(a, n); p != want {
				t.Errorf("Power(%02x, %d) = %02x; want %02x", a, n, p, want)
			}
		}
	}
}

func TestPowerIsRepeatedProducts(t *testing.T) {
	for a := range 256 {
		want := byte(1)
		for n := range uint32(600) {
			if p := galois.Power(byte(a), n); p != want {
				t.Fatalf("Power(%02x, %d) = %02x; want %02x", a, n, p, want)
			}
			want = product(want, byte(a))
		}
	}
}

// P2.2 (Sub, Back)

func TestSubExamples(t *testing.T) {
	for _, c := range []struct{ a, want byte }{{0, 0x63}, {0x53, 0xed}, {1, 0x7c}, {0x10, 0xca}, {0x52, 0}, {0x9a, 0xb8}, {0xff, 0x16}} {
		if s := galois.Sub(c.a); s != c.want {
			t.Errorf("Sub(%02x) = %02x; want %02x", c.a, s, c.want)
		}
		if a := galois.Back(c.want); a != c.a {
			t.Errorf("Back(%02x) = %02x; want %02x", c.want, a, c.a)
		}
	}
}

func TestSubByItsWords(t *testing.T) {
	if s := galois.Sub(0); s != substitute(0) {
		t.Errorf("Sub(00) = %02x", s)
	}
	for a := 1; a < 256; a++ {
		for b := 1; b < 256; b++ {
			if product(byte(a), byte(b)) != 1 {
				continue
			}
			if s, want := galois.Sub(byte(a)), substitute(byte(b)); s != want {
				t.Errorf("Sub(%02x) = %02x; want %02x", a, s, want)
			}
		}
	}
}

func TestSubTakesEachValueOnceAndBackLeadsBack(t *testing.T) {
	var times [256]int
	for x := range 256 {
		a := byte(x)
		s := galois.Sub(a)
		times[s]++
		if s == a || s == ^a {
			t.Errorf("Sub(%02x) = %02x", a, s)
		}
		if b := galois.Back(s); b != a {
			t.Errorf("Back(Sub(%02x)) = %02x", a, b)
		}
		if b := galois.Sub(galois.Back(a)); b != a {
			t.Errorf("Sub(Back(%02x)) = %02x", a, b)
		}
	}
	for s, n := range times {
		if n != 1 {
			t.Errorf("%02x is the substitute of %d elements", s, n)
		}
	}
}

// P2.3 (Mix, Unmix)

func TestMixExamples(t *testing.T) {
	for _, c := range []struct{ clear, mixed [4]byte }{
		{[4]byte{0xdb, 0x13, 0x53, 0x45}, [4]byte{0x8e, 0x4d, 0xa1, 0xbc}},
		{[4]byte{}, [4]byte{}},
		{[4]byte{1, 1, 1, 1}, [4]byte{1, 1, 1, 1}},
		{[4]byte{1, 0, 0, 0}, [4]byte{2, 1, 1, 3}},
		{[4]byte{0, 1, 0, 0}, [4]byte{3, 2, 1, 1}},
		{[4]byte{0, 0, 1, 0}, [4]byte{1, 3, 2, 1}},
		{[4]byte{0, 0, 0, 1}, [4]byte{1, 1, 3, 2}},
		{[4]byte{0x80, 0, 0, 0}, [4]byte{0x1b, 0x80, 0x80, 0x9b}},
		{[4]byte{0xd4, 0xbf, 0x5d, 0x30}, [4]byte{0x04, 0x66, 0x81, 0xe5}},
	} {
		if m := galois.Mix(c.clear); m != c.mixed {
			t.Errorf("Mix(%x) = %x; want %x", c.clear, m, c.mixed)
		}
		if u := galois.Unmix(c.mixed); u != c.clear {
			t.Errorf("Unmix(%x) = %x; want %x", c.mixed, u, c.clear)
		}
	}
	if u := galois.Unmix([4]byte{1, 0, 0, 0}); u != [4]byte{14, 9, 13, 11} {
		t.Errorf("Unmix(01000000) = %x", u)
	}
}

func TestMixByItsRows(t *testing.T) {
	for _, c := range columns() {
		if m, want := galois.Mix(c), mixed(mixing, c); m != want {
			t.Errorf("Mix(%x) = %x; want %x", c, m, want)
		}
		if u, want := galois.Unmix(c), mixed(unmixing, c); u != want {
			t.Errorf("Unmix(%x) = %x; want %x", c, u, want)
		}
	}
}

func TestMixAndUnmixLeadBack(t *testing.T) {
	for _, c := range columns() {
		kept := c
		if b := galois.Unmix(galois.Mix(c)); b != kept {
			t.Errorf("Unmix(Mix(%x)) = %x", kept, b)
		}
		if b := galois.Mix(galois.Unmix(c)); b != kept {
			t.Errorf("Mix(Unmix(%x)) = %x", kept, b)
		}
		if c != kept {
			t.Errorf("the column %x was changed to %x", kept, c)
		}
	}
}

// R5

func TestAnswersHangOnNothingThatWasAsked(t *testing.T) {
	first := galois.Unmix([4]byte{1, 2, 3, 4})
	for _, c := range columns() {
		galois.Mix(c)
		galois.Unmix(c)
	}
	if second := galois.Unmix([4]byte{1, 2, 3, 4}); second != first {
		t.Errorf("Unmix(01020304) = %x, then %x", first, second)
	}
}
