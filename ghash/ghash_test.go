package ghash_test

import (
	"bytes"
	"slices"
	"testing"

	"donjon/api"
	"donjon/ghash"
	"donjon/octet"
	"donjon/sample"
)

// one is the element that changes nothing: its coefficient of x^0 alone is 1.
var one = [16]byte{0x80}

// lengths is the lengths about the ends of blocks.
var lengths = []int{0, 1, 2, 15, 16, 17, 31, 32, 33, 47, 48, 49}

// block is the sixteen bytes that the digits tell.
func block(t *testing.T, digits string) [16]byte {
	t.Helper()
	return [16]byte(sample.Raw(t, digits))
}

// alone is x^power: the element that has one bit.
func alone(power int) [16]byte {
	var x [16]byte
	x[power/8] = 0x80 >> (power % 8)
	return x
}

// elements is the elements 0 and 1, the one of all bits, those that end in one bit, and others.
func elements() [][16]byte {
	list := [][16]byte{{}, one, {15: 1}, {7: 1}, {8: 0x80}, {0: 0x80, 15: 1}, [16]byte(bytes.Repeat([]byte{0xff}, 16))}
	for start := range uint32(24) {
		list = append(list, [16]byte(sample.Mingled(start, 16)))
	}
	return list
}

// added is x and y added bit by bit.
func added(x, y [16]byte) [16]byte {
	for i := range x {
		x[i] ^= y[i]
	}
	return x
}

// coefficient is that of x^power.
func coefficient(x [16]byte, power int) byte { return x[power/8] >> (7 - power%8) & 1 }

// product is the chapter's product, reckoned by its words: multiplied out, then brought below x^128 from the top.
func product(x, y [16]byte) [16]byte {
	var p [255]byte
	for i := range 128 {
		for j := range 128 {
			p[i+j] ^= coefficient(x, i) & coefficient(y, j)
		}
	}
	for i := len(p) - 1; i >= 128; i-- {
		for _, power := range []int{7, 2, 1, 0} {
			p[i-128+power] ^= p[i]
		}
		p[i] = 0
	}
	var z [16]byte
	for i := range 128 {
		z[i/8] |= p[i] << (7 - i%8)
	}
	return z
}

// filled is b filled up, in memory of its own.
func filled(b []byte) []byte {
	f := bytes.Clone(b)
	for len(f)%16 != 0 {
		f = append(f, 0)
	}
	return f
}

// lengthBlock is the length block of a and b bytes.
func lengthBlock(a, b int) [16]byte {
	var x [16]byte
	for i := range 8 {
		x[7-i] = byte(uint64(a) * 8 >> (8 * i))
		x[15-i] = byte(uint64(b) * 8 >> (8 * i))
	}
	return x
}

// hashed is the chapter's sum, reckoned by its words.
func hashed(h [16]byte, aad, text []byte) [16]byte {
	last := lengthBlock(len(aad), len(text))
	var s [16]byte
	for b := range slices.Chunk(slices.Concat(filled(aad), filled(text), last[:]), 16) {
		s = product(added(s, [16]byte(b)), h)
	}
	return s
}

// check holds a sum against the one that is wanted.
func check(t *testing.T, h [16]byte, aad, text []byte, want [16]byte) {
	t.Helper()
	if s := ghash.Sum(h, aad, text); s != want {
		t.Fatalf("Sum(%x, %x, %x) = %x; want %x", h, aad, text, s, want)
	}
}

// P4.1 (Mul)

func TestMulExamples(t *testing.T) {
	for _, c := range []struct{ x, y, want string }{
		{"80000000000000000000000000000000", "0102030405060708090a0b0c0d0e0f10", "0102030405060708090a0b0c0d0e0f10"},
		{"0388dace60b6a392f328c2b971b2fe78", "66e94bd4ef8a2c3b884cfa59ca342b2e", "5e2ec746917062882c85b0685353deb7"},
		{"5e2ec746917062882c85b0685353de37", "66e94bd4ef8a2c3b884cfa59ca342b2e", "f38cbb1ad69223dcc3457ae5b6b0f885"},
		// x by x^127 is x^128; x^64 by itself is so, too.
		{"40000000000000000000000000000000", "00000000000000000000000000000001", "e1000000000000000000000000000000"},
		{"00000000000000008000000000000000", "00000000000000008000000000000000", "e1000000000000000000000000000000"},
		// x^129 is a power more of what x^128 is; x^254 is brought down twice.
		{"20000000000000000000000000000000", "00000000000000000000000000000001", "70800000000000000000000000000000"},
		{"00000000000000000000000000000001", "00000000000000000000000000000001", "e6080000000000000000000000000003"},
		// From one word of 64 bits to the other.
		{"40000000000000000000000000000000", "00000000000000010000000000000000", "00000000000000008000000000000000"},
	} {
		x, y, want := block(t, c.x), block(t, c.y), block(t, c.want)
		if p := ghash.Mul(x, y); p != want {
			t.Errorf("Mul(%x, %x) = %x; want %x", x, y, p, want)
		}
		if p := ghash.Mul(y, x); p != want {
			t.Errorf("Mul(%x, %x) = %x; want %x", y, x, p, want)
		}
	}
}

func TestMulByNought(t *testing.T) {
	for _, x := range elements() {
		if p, q := ghash.Mul(x, [16]byte{}), ghash.Mul([16]byte{}, x); p != [16]byte{} || q != [16]byte{} {
			t.Errorf("%x by 0 is %x, 0 by it %x", x, p, q)
		}
	}
}

func TestMulByOneChangesNothing(t *testing.T) {
	list := elements()
	for power := range 128 {
		list = append(list, alone(power))
	}
	for _, x := range list {
		if p, q := ghash.Mul(x, one), ghash.Mul(one, x); p != x || q != x {
			t.Errorf("%x by 1 is %x, 1 by it %x", x, p, q)
		}
	}
}

func TestMulByEachBit(t *testing.T) {
	for _, x := range elements() {
		for power := range 128 {
			y := alone(power)
			want := product(x, y)
			if p := ghash.Mul(x, y); p != want {
				t.Fatalf("Mul(%x, %x) = %x; want %x", x, y, p, want)
			}
			if p := ghash.Mul(y, x); p != want {
				t.Fatalf("Mul(%x, %x) = %x; want %x", y, x, p, want)
			}
		}
	}
}

func TestMulOfTwoBits(t *testing.T) {
	for i := range 128 {
		for j := range 128 {
			p := ghash.Mul(alone(i), alone(j))
			if i+j < 128 && p != alone(i+j) {
				t.Fatalf("x^%d by x^%d is %x", i, j, p)
			}
			if want := product(alone(i), alone(j)); p != want {
				t.Fatalf("x^%d by x^%d is %x; want %x", i, j, p, want)
			}
		}
	}
}

func TestMulByItsWords(t *testing.T) {
	for _, x := range elements() {
		for _, y := range elements() {
			if p, want := ghash.Mul(x, y), product(x, y); p != want {
				t.Fatalf("Mul(%x, %x) = %x; want %x", x, y, p, want)
			}
		}
	}
}

func TestMulHangsOnNoOrder(t *testing.T) {
	for _, x := range elements() {
		for _, y := range elements() {
			p := ghash.Mul(x, y)
			if q := ghash.Mul(y, x); p != q {
				t.Fatalf("Mul(%x, %x) = %x, the other way round %x", x, y, p, q)
			}
			for _, z := range elements() {
				if a, b := ghash.Mul(p, z), ghash.Mul(x, ghash.Mul(y, z)); a != b {
					t.Fatalf("%x by %x by %x is %x, put together otherwise %x", x, y, z, a, b)
				}
			}
		}
	}
}

func TestMulSpreadsOverSums(t *testing.T) {
	for _, x := range elements() {
		for _, y := range elements() {
			for _, z := range elements() {
				parts := added(ghash.Mul(x, z), ghash.Mul(y, z))
				if p := ghash.Mul(added(x, y), z); p != parts {
					t.Fatalf("(%x + %x) by %x is %x, of the two %x", x, y, z, p, parts)
				}
				if p := ghash.Mul(z, added(x, y)); p != parts {
					t.Fatalf("%x by (%x + %x) is %x, of the two %x", z, x, y, p, parts)
				}
			}
		}
	}
}

// P4.2 (Sum)

func TestSumExamples(t *testing.T) {
	const (
		noughts = "66e94bd4ef8a2c3b884cfa59ca342b2e"
		short   = "b83b533708bf535d0aa6e52980d53b78"
		long    = "acbef20579b4b8ebce889bac8732dad7"
		beside  = "feedfacedeadbeeffeedfacedeadbeefabaddad2"
	)
	for _, c := range []struct{ h, aad, text, want string }{
		{noughts, "", "0388dace60b6a392f328c2b971b2fe78", "f38cbb1ad69223dcc3457ae5b6b0f885"},
		{noughts, "", "", "00000000000000000000000000000000"},
		{"0102030405060708090a0b0c0d0e0f10", "", "", "00000000000000000000000000000000"},
		{short, "", "42831ec2217774244b7221b784d0d49ce3aa212f2c02a4e035c17e2329aca12e21d514b25466931c7d8f6a5aac84aa051ba30b396a0aac973d58e091473f5985", "7f1b32b81b820d02614f8895ac1d4eac"},
		{short, beside, "42831ec2217774244b7221b784d0d49ce3aa212f2c02a4e035c17e2329aca12e21d514b25466931c7d8f6a5aac84aa051ba30b396a0aac973d58e091", "698e57f70e6ecc7fd9463b7260a9ae5f"},
		{short, beside, "61353b4c2806934a777ff51fa22a4755699b2a714fcdc6f83766e5f97b6c742373806900e49f24b22b097544d4896b424989b5e1ebac0f07c23f4598", "df586bb4c249b92cb6922877e444d37b"},
		{long, beside, "522dc1f099567d07f47f37a32a84427d643a8cdcbfe5c0c97598a2bd2555d1aa8cb08e48590dbb3da7b08b1056828838c5f61e6393ba7a0abcc9f662", "8bd0c4d8aacd391e67cca447e8c38f65"},
	} {
		check(t, block(t, c.h), sample.Raw(t, c.aad), sample.Raw(t, c.text), block(t, c.want))
	}
}

func TestSumOfNone(t *testing.T) {
	for _, h := range elements() {
		for _, none := range [][]byte{nil, {}, sample.Mingled(1, 40)[:0]} {
			check(t, h, none, nil, [16]byte{})
			check(t, h, nil, none, [16]byte{})
			check(t, h, none, none, [16]byte{})
		}
	}
}

func TestNilIsAsEmpty(t *testing.T) {
	h := [16]byte(sample.Mingled(3, 16))
	for _, n := range lengths {
		b := sample.Mingled(5, n)
		check(t, h, nil, b, ghash.Sum(h, []byte{}, b))
		check(t, h, b, nil, ghash.Sum(h, b, []byte{}))
	}
}

func TestSumByItsWords(t *testing.T) {
	for _, h := range [][16]byte{{}, one, {15: 1}, [16]byte(sample.Mingled(7, 16)), [16]byte(bytes.Repeat([]byte{0xff}, 16))} {
		for _, m := range lengths {
			for _, n := range lengths {
				aad, text := sample.Mingled(11, m), sample.Mingled(13, n)
				check(t, h, aad, text, hashed(h, aad, text))
			}
		}
	}
}

func TestSumOfEachLength(t *testing.T) {
	h := [16]byte(sample.Mingled(17, 16))
	for n := range 100 {
		b := sample.Mingled(19, n)
		check(t, h, nil, b, hashed(h, nil, b))
		check(t, h, b, nil, hashed(h, b, nil))
		check(t, h, b[:n/2], b, hashed(h, b[:n/2], b))
	}
}

func TestEachIsFilledUpByItself(t *testing.T) {
	h := [16]byte(sample.Mingled(23, 16))
	for _, m := range lengths {
		for _, n := range lengths {
			aad, text := sample.Mingled(29, m), sample.Mingled(31, n)
			// What is filled up already is of the same blocks, but for the length block.
			longA, longT := filled(aad), filled(text)
			apart := ghash.Mul(added(lengthBlock(m, n), lengthBlock(len(longA), len(longT))), h)
			check(t, h, aad, text, added(ghash.Sum(h, longA, longT), apart))
		}
	}
}

func TestLengthBlock(t *testing.T) {
	// Under 1 a sum is that of the blocks, added: of noughts it is the length block.
	for _, c := range []struct {
		aad, text int
		want      string
	}{
		{0, 1, "00000000000000000000000000000008"},
		{1, 0, "00000000000000080000000000000000"},
		{1, 2, "00000000000000080000000000000010"},
		{16, 31, "000000000000008000000000000000f8"},
		{31, 32, "00000000000000f80000000000000100"},
		{33, 15, "00000000000001080000000000000078"},
		{0x1234, 0x1fff, "00000000000091a0000000000000fff8"},
		{0x2000, 0, "00000000000100000000000000000000"},
		{20, 0x10000, "00000000000000a00000000000080000"},
		{0x21001, 0x200003, "00000000001080080000000001000018"},
	} {
		check(t, one, make([]byte, c.aad), make([]byte, c.text), block(t, c.want))
	}
}

func TestPartedOtherwise(t *testing.T) {
	h := [16]byte(sample.Mingled(37, 16))
	for _, n := range lengths {
		text := sample.Mingled(41, n)
		sums := map[[16]byte]int{}
		for at := range n + 1 {
			s := ghash.Sum(h, text[:at], text[at:])
			if was, ok := sums[s]; ok {
				t.Errorf("%x parted at %d and at %d has one sum", text, was, at)
			}
			sums[s] = at
		}
	}
}

func TestNoughtsBehindMakeAnotherSum(t *testing.T) {
	h := [16]byte(sample.Mingled(43, 16))
	for _, b := range [][]byte{make([]byte, 49), sample.Mingled(47, 49)} {
		aads, texts := map[[16]byte]int{}, map[[16]byte]int{}
		for n := range 40 {
			longer := append(bytes.Clone(b), make([]byte, n)...)
			aads[ghash.Sum(h, longer, nil)]++
			texts[ghash.Sum(h, nil, longer)]++
		}
		if len(aads) != 40 || len(texts) != 40 {
			t.Errorf("40 lengths have %d sums as aad, %d as text", len(aads), len(texts))
		}
	}
}

func TestSumSeesEachBit(t *testing.T) {
	h := [16]byte(sample.Mingled(53, 16))
	aad, text := sample.Mingled(59, 33), sample.Mingled(61, 47)
	was := ghash.Sum(h, aad, text)
	for _, b := range [][]byte{aad, text} {
		for bit := range 8 * len(b) {
			b[bit/8] ^= 1 << (bit % 8)
			if ghash.Sum(h, aad, text) == was {
				t.Errorf("Sum does not see the bit %d", bit)
			}
			b[bit/8] ^= 1 << (bit % 8)
		}
	}
}

func TestSumsOfTextsOfOneLength(t *testing.T) {
	h := [16]byte(sample.Mingled(67, 16))
	for _, m := range lengths {
		for _, n := range lengths {
			var aad, text [3][]byte
			for i := range 3 {
				aad[i], text[i] = sample.Mingled(uint32(71+i), m), sample.Mingled(uint32(79+i), n)
			}
			aad[2], _ = octet.Xor(aad[0], aad[1])
			text[2], _ = octet.Xor(text[0], text[1])
			both := added(ghash.Sum(h, aad[0], text[0]), ghash.Sum(h, aad[1], text[1]))
			check(t, h, aad[2], text[2], added(both, ghash.Sum(h, make([]byte, m), make([]byte, n))))
		}
	}
}

func TestSumOfALongText(t *testing.T) {
	h := [16]byte(sample.Mingled(83, 16))
	text := sample.Mingled(89, api.MaxText+1)
	var s [16]byte
	for i := 0; i < len(text); i += 16 {
		s = ghash.Mul(added(s, [16]byte(filled(text[i:min(i+16, len(text))]))), h)
	}
	check(t, h, nil, text, ghash.Mul(added(s, lengthBlock(0, len(text))), h))
	check(t, h, text, nil, ghash.Mul(added(s, lengthBlock(len(text), 0)), h))
}

// R3, R5

func TestWhatIsHandedInStays(t *testing.T) {
	for _, m := range lengths {
		for _, n := range lengths {
			h, x := [16]byte(sample.Mingled(97, 16)), [16]byte(sample.Mingled(101, 16))
			room := sample.Mingled(103, 200)
			was, wasH, wasX := bytes.Clone(room), h, x
			// The spare room of both is at hand, that of aad with the text in it.
			want := hashed(h, was[8:8+m], was[64:64+n])
			for range 2 {
				check(t, h, room[8:8+m], room[64:64+n], want)
			}
			ghash.Mul(h, x)
			if !bytes.Equal(room, was) {
				t.Errorf("Sum of %d bytes and %d changed the room about them", m, n)
			}
			if h != wasH || x != wasX {
				t.Error("an element was changed")
			}
		}
	}
}

func TestOneTextAsBoth(t *testing.T) {
	h := [16]byte(sample.Mingled(107, 16))
	b := sample.Mingled(109, 40)
	want := hashed(h, bytes.Clone(b), bytes.Clone(b))
	check(t, h, b, b, want)
	check(t, h, b[:33], b[7:], hashed(h, bytes.Clone(b[:33]), bytes.Clone(b[7:])))
}

func TestWhatLiesBesideCountsNothing(t *testing.T) {
	h := [16]byte(sample.Mingled(113, 16))
	for _, n := range lengths {
		b := sample.Mingled(127, n)
		tight, roomy := slices.Clip(bytes.Clone(b)), append(bytes.Clone(b), sample.Mingled(131, 64)...)[:n]
		check(t, h, roomy, roomy, ghash.Sum(h, tight, tight))
	}
}

func TestAnswersHangOnNothingThatWasAsked(t *testing.T) {
	h := [16]byte(sample.Mingled(137, 16))
	text := sample.Mingled(139, 33)
	sum, p := ghash.Sum(h, text, text), ghash.Mul(h, one)
	for _, x := range elements() {
		ghash.Mul(x, h)
		ghash.Sum(x, x[:5], text)
	}
	if s, q := ghash.Sum(h, text, text), ghash.Mul(h, one); s != sum || q != p {
		t.Errorf("Sum tells %x, then %x; Mul %x, then %x", sum, s, p, q)
	}
}
