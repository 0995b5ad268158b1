package ctr_test

import (
	"bytes"
	"math"
	"slices"
	"testing"

	"donjon/aes"
	"donjon/api"
	"donjon/ctr"
	"donjon/octet"
	"donjon/sample"
)

// lengths is the lengths about the ends of blocks.
var lengths = []int{0, 1, 2, 15, 16, 17, 31, 32, 33, 47, 48, 49}

// keys is keys of both lengths: of noughts, of ff alone, and others.
func keys() [][]byte {
	var list [][]byte
	for _, size := range []int{16, 32} {
		list = append(list, make([]byte, size), bytes.Repeat([]byte{0xff}, size), sample.Mingled(1, size), sample.Mingled(2, size))
	}
	return list
}

// nonces is nonces: of noughts, of ff alone, one that differs from the first in its last bit, and others.
func nonces() [][]byte {
	return [][]byte{make([]byte, 12), bytes.Repeat([]byte{0xff}, 12), append(make([]byte, 11), 1), sample.Mingled(3, 12), sample.Mingled(4, 12)}
}

// counter is the counter block that begins with ahead and ends with the number n.
func counter(ahead []byte, n uint32) [16]byte {
	return [16]byte(append(bytes.Clone(ahead), byte(n>>24), byte(n>>16), byte(n>>8), byte(n)))
}

// counted is the first n bytes of the stream, reckoned by the chapter's words: the first counter block has the number 1, so the stream begins with 2.
func counted(t *testing.T, key, nonce []byte, n int) []byte {
	t.Helper()
	cipher, e := aes.New(key)
	if e != api.OK {
		t.Fatalf("a cipher of %x: %v", key, e)
	}
	var all []byte
	for i := uint32(2); len(all) < n; i++ {
		b, e := cipher.Encrypt(counter(nonce, i))
		if e != api.OK {
			t.Fatalf("the counter block %d: %v", i, e)
		}
		all = append(all, b[:]...)
	}
	return all[:n]
}

// added is a and b, which is no shorter, added bit by bit, as far as a goes.
func added(a, b []byte) []byte {
	c := make([]byte, len(a))
	for i := range a {
		c[i] = a[i] ^ b[i]
	}
	return c
}

// crypted is Crypt's answer, which has to be one.
func crypted(t *testing.T, key, nonce, text []byte) []byte {
	t.Helper()
	b, e := ctr.Crypt(key, nonce, text)
	if e != api.OK || len(b) != len(text) {
		t.Fatalf("Crypt(%x, %x, %d bytes): %d bytes, %v", key, nonce, len(text), len(b), e)
	}
	return b
}

// refused holds it that Crypt answers just the error.
func refused(t *testing.T, key, nonce, text []byte, want api.Errno) {
	t.Helper()
	if b, e := ctr.Crypt(key, nonce, text); len(b) != 0 || e != want {
		t.Errorf("Crypt with a key of %d bytes, a nonce of %d, a text of %d: %d bytes, %v; want %v", len(key), len(nonce), len(text), len(b), e, want)
	}
}

// P5.1 (First)

func TestFirstExamples(t *testing.T) {
	for _, x := range []struct{ nonce, want string }{
		{"000000000000000000000000", "00000000000000000000000000000001"},
		{"ffffffffffffffffffffffff", "ffffffffffffffffffffffff00000001"},
		{"cafebabefacedbaddecaf888", "cafebabefacedbaddecaf88800000001"},
		{"0102030405060708090a0b0c", "0102030405060708090a0b0c00000001"},
	} {
		if c, e := ctr.First(sample.Raw(t, x.nonce)); c != [16]byte(sample.Raw(t, x.want)) || e != api.OK {
			t.Errorf("First(%s) = %x, %v; want %s", x.nonce, c, e, x.want)
		}
	}
}

func TestFirstIsTheNonceAndOne(t *testing.T) {
	for at := range 12 {
		for x := range 256 {
			nonce := make([]byte, 12)
			nonce[at] = byte(x)
			if c, e := ctr.First(nonce); c != counter(nonce, 1) || e != api.OK {
				t.Fatalf("First(%x) = %x, %v", nonce, c, e)
			}
		}
	}
	for _, nonce := range nonces() {
		if c, e := ctr.First(nonce); c != counter(nonce, 1) || e != api.OK {
			t.Errorf("First(%x) = %x, %v", nonce, c, e)
		}
	}
}

func TestFirstRefusesOtherLengths(t *testing.T) {
	room := sample.Mingled(5, 64)
	list := [][]byte{nil, {}, make([]byte, 11), make([]byte, 13), make([]byte, api.MaxText+12)}
	for n := range 64 {
		if n != 12 {
			list = append(list, room[:n], sample.Mingled(6, n))
		}
	}
	for _, nonce := range list {
		if c, e := ctr.First(nonce); c != [16]byte{} || e != api.ErrArg {
			t.Errorf("First of %d bytes = %x, %v; want ErrArg", len(nonce), c, e)
		}
	}
	// With room behind it twelve bytes are twelve.
	if c, e := ctr.First(room[:12]); c != counter(room[:12], 1) || e != api.OK {
		t.Errorf("First of 12 bytes = %x, %v", c, e)
	}
}

// P5.1 (Next)

func TestNextExamples(t *testing.T) {
	for _, x := range []struct{ c, want string }{
		{"000000000000000000000000ffffffff", "00000000000000000000000000000000"},
		{"000000000000000000000000000000ff", "00000000000000000000000000000100"},
		{"00000000000000000000000000000000", "00000000000000000000000000000001"},
		{"cafebabefacedbaddecaf88800000001", "cafebabefacedbaddecaf88800000002"},
		{"cafebabefacedbaddecaf888ffffffff", "cafebabefacedbaddecaf88800000000"},
		{"0102030405060708090a0b0c0d0e0f10", "0102030405060708090a0b0c0d0e0f11"},
		{"0102030405060708090a0b0c00ffffff", "0102030405060708090a0b0c01000000"},
		{"ffffffffffffffffffffffffffffffff", "ffffffffffffffffffffffff00000000"},
	} {
		if c := ctr.Next([16]byte(sample.Raw(t, x.c))); c != [16]byte(sample.Raw(t, x.want)) {
			t.Errorf("Next(%s) = %x; want %s", x.c, c, x.want)
		}
	}
}

func TestNextAtTheEdges(t *testing.T) {
	numbers := map[uint32]uint32{
		0: 1, 1: 2, 254: 255, 255: 256, 256: 257, 1<<16 - 1: 1 << 16, 1<<24 - 1: 1 << 24,
		math.MaxInt32: 1 << 31, math.MaxUint32 - 1: math.MaxUint32, math.MaxUint32: 0,
	}
	for x := range 256 {
		ahead := bytes.Repeat([]byte{byte(x)}, 12)
		for n, want := range numbers {
			c := counter(ahead, n)
			if next := ctr.Next(c); next != counter(ahead, want) {
				t.Errorf("Next(%x) = %x; want the number %d", c, next, want)
			}
			if c != counter(ahead, n) {
				t.Errorf("Next changed what it was handed to %x", c)
			}
		}
	}
}

func TestNextCountsOn(t *testing.T) {
	ahead := sample.Mingled(7, 12)
	for _, from := range []uint32{0, math.MaxUint32 - 70000} {
		c := counter(ahead, from)
		for i := range uint32(140000) {
			if want := counter(ahead, from+i); c != want {
				t.Fatalf("%d times on from %d is %x; want %x", i, from, c, want)
			}
			c = ctr.Next(c)
		}
	}
}

// P5.2 (Crypt)

func TestCryptExamples(t *testing.T) {
	const (
		clear  = "d9313225f88406e5a55909c5aff5269a86a7a9531534f7da2e4c303d8a318a721c3c0c95956809532fcf0e2449a6b525b16aedf5aa0de657ba637b391aafd255"
		half   = "feffe9928665731c6d6a8f9467308308"
		nonce  = "cafebabefacedbaddecaf888"
		none   = "00000000000000000000000000000000"
		twelve = "000000000000000000000000"
	)
	for _, x := range []struct{ key, nonce, text, want string }{
		{none, twelve, none, "0388dace60b6a392f328c2b971b2fe78"},
		{none + none, twelve, none, "cea7403d4d606b6e074ec5d3baf39d18"},
		{half, nonce, clear, "42831ec2217774244b7221b784d0d49ce3aa212f2c02a4e035c17e2329aca12e21d514b25466931c7d8f6a5aac84aa051ba30b396a0aac973d58e091473f5985"},
		{half, nonce, clear[:120], "42831ec2217774244b7221b784d0d49ce3aa212f2c02a4e035c17e2329aca12e21d514b25466931c7d8f6a5aac84aa051ba30b396a0aac973d58e091"},
		{half + half, nonce, clear, "522dc1f099567d07f47f37a32a84427d643a8cdcbfe5c0c97598a2bd2555d1aa8cb08e48590dbb3da7b08b1056828838c5f61e6393ba7a0abcc9f662898015ad"},
		{half, nonce, "", ""},
	} {
		key, nonce := sample.Raw(t, x.key), sample.Raw(t, x.nonce)
		if b := octet.Hex(crypted(t, key, nonce, sample.Raw(t, x.text))); b != x.want {
			t.Errorf("Crypt(%s, %x, %s) = %s; want %s", x.key, nonce, x.text, b, x.want)
		}
		if b := octet.Hex(crypted(t, key, nonce, sample.Raw(t, x.want))); b != x.text {
			t.Errorf("Crypt(%s, %x, %s) = %s; want %s", x.key, nonce, x.want, b, x.text)
		}
	}
}

func TestCryptAddsTheStream(t *testing.T) {
	for _, key := range keys() {
		for _, nonce := range nonces() {
			all := counted(t, key, nonce, 50)
			for n := range 50 {
				for _, text := range [][]byte{make([]byte, n), bytes.Repeat([]byte{0xff}, n), sample.Mingled(8, n)} {
					if b := crypted(t, key, nonce, text); !bytes.Equal(b, added(text, all)) {
						t.Fatalf("Crypt(%x, %x, %x) = %x; want the sum with %x", key, nonce, text, b, all[:n])
					}
				}
			}
		}
	}
}

func TestCryptOfEachLengthThatIsTaken(t *testing.T) {
	nonce := sample.Mingled(9, 12)
	text := sample.Mingled(10, api.MaxText)
	for _, size := range []int{16, 32} {
		key := sample.Mingled(11, size)
		all := counted(t, key, nonce, api.MaxText)
		// The last byte of a counter block turns over behind 254 blocks of the stream.
		for _, n := range []int{0, 1, 15, 16, 17, 32, 33, 254*16 - 1, 254 * 16, 254*16 + 1, 255 * 16, 256 * 16, 257 * 16, 4097, 65535, 65536} {
			if b := crypted(t, key, nonce, text[:n]); !bytes.Equal(b, added(text[:n], all)) {
				t.Errorf("Crypt of %d bytes under a key of %d is not the sum with the stream", n, size)
			}
		}
	}
}

func TestTheStreamBeginsBehindTheFirstBlock(t *testing.T) {
	for _, key := range keys() {
		cipher, e := aes.New(key)
		if e != api.OK {
			t.Fatal(e)
		}
		for _, nonce := range nonces() {
			c, e := ctr.First(nonce)
			if e != api.OK {
				t.Fatal(e)
			}
			stream := crypted(t, key, nonce, make([]byte, 20*16))
			first, _ := cipher.Encrypt(c)
			if bytes.Equal(stream[:16], first[:]) {
				t.Errorf("the stream under %x, %x begins with the first counter block", key, nonce)
			}
			for i := 0; i < len(stream); i += 16 {
				c = ctr.Next(c)
				if b, _ := cipher.Encrypt(c); !bytes.Equal(stream[i:i+16], b[:]) {
					t.Errorf("the stream under %x, %x has %x at %d; want %x", key, nonce, stream[i:i+16], i, b)
				}
			}
		}
	}
}

func TestCryptOfNone(t *testing.T) {
	room := sample.Mingled(12, 40)
	for _, key := range keys() {
		for _, none := range [][]byte{nil, {}, room[:0], room[40:]} {
			if b := crypted(t, key, sample.Mingled(13, 12), none); len(b) != 0 {
				t.Errorf("Crypt of none = %x", b)
			}
		}
	}
}

func TestCryptTwiceChangesNothing(t *testing.T) {
	for _, key := range keys() {
		for _, nonce := range nonces() {
			for _, n := range lengths {
				text := sample.Mingled(14, n)
				once := crypted(t, key, nonce, text)
				if twice := crypted(t, key, nonce, once); !bytes.Equal(twice, text) {
					t.Errorf("%x became %x, then %x", text, once, twice)
				}
			}
		}
	}
	text := sample.Mingled(15, api.MaxText)
	key, nonce := sample.Mingled(16, 32), sample.Mingled(17, 12)
	if !bytes.Equal(crypted(t, key, nonce, crypted(t, key, nonce, text)), text) {
		t.Error("the longest text is another one behind Crypt twice")
	}
}

func TestTheBeginningIsEncipheredAsTheBeginning(t *testing.T) {
	key, nonce, text := sample.Mingled(18, 16), sample.Mingled(19, 12), sample.Mingled(20, 300)
	whole := crypted(t, key, nonce, text)
	for n := range text {
		if b := crypted(t, key, nonce, text[:n]); !bytes.Equal(b, whole[:n]) {
			t.Errorf("the first %d bytes are enciphered to %x; want %x", n, b, whole[:n])
		}
	}
}

func TestCryptSeesEachBit(t *testing.T) {
	for _, size := range []int{16, 32} {
		key, nonce, text := sample.Mingled(21, size), sample.Mingled(22, 12), sample.Mingled(23, 33)
		was := crypted(t, key, nonce, text)
		for _, b := range [][]byte{key, nonce} {
			for bit := range 8 * len(b) {
				b[bit/8] ^= 1 << (bit % 8)
				if bytes.Equal(crypted(t, key, nonce, text), was) {
					t.Errorf("with a key of %d bytes Crypt does not see the bit %d of %d", size, bit, 8*len(b))
				}
				b[bit/8] ^= 1 << (bit % 8)
			}
		}
		for bit := range 8 * len(text) {
			text[bit/8] ^= 1 << (bit % 8)
			want := bytes.Clone(was)
			want[bit/8] ^= 1 << (bit % 8)
			if b := crypted(t, key, nonce, text); !bytes.Equal(b, want) {
				t.Errorf("with the text's bit %d another Crypt tells %x; want %x", bit, b, want)
			}
			text[bit/8] ^= 1 << (bit % 8)
		}
	}
}

func TestCryptRefusesKeysOfOtherLengths(t *testing.T) {
	room, nonce := sample.Mingled(24, 80), sample.Mingled(25, 12)
	list := [][]byte{nil, {}, make([]byte, api.MaxText), room}
	for n := range 65 {
		if n != 16 && n != 32 {
			list = append(list, room[:n], sample.Mingled(26, n))
		}
	}
	for _, key := range list {
		for _, n := range []int{0, 1, 16, api.MaxText} {
			refused(t, key, nonce, make([]byte, n), api.ErrArg)
		}
	}
	for _, size := range []int{16, 32} {
		crypted(t, room[:size], nonce, room)
	}
}

func TestCryptRefusesNoncesOfOtherLengths(t *testing.T) {
	room := sample.Mingled(27, 64)
	list := [][]byte{nil, {}, make([]byte, 11), make([]byte, 13), room}
	for n := range 33 {
		if n != 12 {
			list = append(list, room[:n])
		}
	}
	for _, key := range [][]byte{sample.Mingled(28, 16), sample.Mingled(29, 32)} {
		for _, nonce := range list {
			for _, n := range []int{0, 1, 16, api.MaxText} {
				refused(t, key, nonce, make([]byte, n), api.ErrArg)
			}
		}
		crypted(t, key, room[:12], room)
	}
}

func TestCryptRefusesLongTexts(t *testing.T) {
	for _, key := range keys() {
		nonce := sample.Mingled(30, 12)
		crypted(t, key, nonce, make([]byte, api.MaxText))
		for _, n := range []int{api.MaxText + 1, api.MaxText + 16, 2 * api.MaxText, 1 << 24} {
			refused(t, key, nonce, make([]byte, n), api.ErrLong)
		}
	}
}

func TestErrArgComesAheadOfErrLong(t *testing.T) {
	long := make([]byte, api.MaxText+1)
	for _, size := range []int{0, 15, 16, 17, 24, 31, 32, 33} {
		for _, n := range []int{0, 11, 12, 13} {
			want := api.ErrArg
			if (size == 16 || size == 32) && n == 12 {
				want = api.ErrLong
			}
			refused(t, make([]byte, size), make([]byte, n), long, want)
		}
	}
	refused(t, nil, nil, long, api.ErrArg)
	refused(t, nil, nil, nil, api.ErrArg)
}

// R3, R5

func TestWhatIsHandedInStays(t *testing.T) {
	for _, size := range []int{16, 32} {
		for _, n := range lengths {
			room := sample.Mingled(31, 200)
			was := bytes.Clone(room)
			// The spare room of the nonce has the key in it, that of the key the text.
			nonce, key, text := room[8:20], room[24:24+size], room[64:64+n]
			want := added(text, counted(t, bytes.Clone(key), bytes.Clone(nonce), n))
			for range 2 {
				ctr.First(nonce)
				if b := crypted(t, key, nonce, text); !bytes.Equal(b, want) {
					t.Errorf("Crypt of %d bytes in the midst of others = %x; want %x", n, b, want)
				}
			}
			refused(t, room[:15], nonce, text, api.ErrArg)
			refused(t, key, room[:13], text, api.ErrArg)
			if !bytes.Equal(room, was) {
				t.Errorf("a call with a key of %d bytes and a text of %d changed the room about them", size, n)
			}
		}
	}
	long := sample.Mingled(32, api.MaxText+1)
	was := bytes.Clone(long)
	refused(t, long[:16], long[:12], long, api.ErrLong)
	crypted(t, long[:16], long[:12], long[:api.MaxText])
	if !bytes.Equal(long, was) {
		t.Error("a long text was changed")
	}
}

func TestOneTextAsAll(t *testing.T) {
	b := sample.Mingled(33, 32)
	want := added(b, counted(t, bytes.Clone(b), bytes.Clone(b[:12]), 32))
	if got := crypted(t, b, b[:12], b); !bytes.Equal(got, want) {
		t.Errorf("Crypt of a text under itself = %x; want %x", got, want)
	}
}

func TestAnswersAreNewMemory(t *testing.T) {
	for _, n := range lengths {
		key, nonce, text := sample.Mingled(34, 32), sample.Mingled(35, 12), sample.Mingled(36, n)
		wasKey, wasNonce, wasText := bytes.Clone(key), bytes.Clone(nonce), bytes.Clone(text)
		first, second := crypted(t, key, nonce, text), crypted(t, key, nonce, text)
		want := bytes.Clone(second)
		first = first[:cap(first)]
		for i := range first {
			first[i] = ^first[i]
		}
		if !bytes.Equal(key, wasKey) || !bytes.Equal(nonce, wasNonce) || !bytes.Equal(text, wasText) {
			t.Errorf("an answer of %d bytes shares memory with what was handed in", n)
		}
		for _, b := range [][]byte{key, nonce, text} {
			clear(b)
		}
		if !bytes.Equal(second, want) {
			t.Errorf("an answer of %d bytes shares memory with another one, or with what was handed in", n)
		}
	}
}

func TestWhatLiesBesideCountsNothing(t *testing.T) {
	roomy := func(b []byte) []byte { return append(bytes.Clone(b), sample.Mingled(38, 64)...)[:len(b)] }
	for _, n := range lengths {
		key, nonce, text := sample.Mingled(39, 16), sample.Mingled(40, 12), sample.Mingled(41, n)
		want := crypted(t, slices.Clip(key), slices.Clip(nonce), slices.Clip(text))
		if b := crypted(t, roomy(key), roomy(nonce), roomy(text)); !bytes.Equal(b, want) {
			t.Errorf("with room behind them Crypt of %d bytes = %x; want %x", n, b, want)
		}
	}
}

func TestAnswersHangOnNothingThatWasAsked(t *testing.T) {
	key, nonce, text := sample.Mingled(42, 16), sample.Mingled(43, 12), sample.Mingled(44, 49)
	was := crypted(t, key, nonce, text)
	c := ctr.Next(counter(nonce, 5))
	for _, other := range keys() {
		for _, n := range lengths {
			crypted(t, other, sample.Mingled(uint32(n), 12), sample.Mingled(45, n))
			refused(t, key, nonce[:n%12], text, api.ErrArg)
			ctr.Next(counter(nonce, uint32(n)))
		}
	}
	if b, next := crypted(t, key, nonce, text), ctr.Next(counter(nonce, 5)); !bytes.Equal(b, was) || next != c {
		t.Errorf("Crypt tells %x, then %x; Next %x, then %x", was, b, c, next)
	}
}
