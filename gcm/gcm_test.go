package gcm_test

import (
	"bytes"
	libaes "crypto/aes"
	"crypto/cipher"
	"slices"
	"testing"

	"donjon/aes"
	"donjon/api"
	"donjon/ctr"
	"donjon/gcm"
	"donjon/ghash"
	"donjon/sample"
)

// lengths is the lengths about the ends of blocks.
var lengths = []int{0, 1, 2, 15, 16, 17, 31, 32, 33, 47, 48, 49}

// edges is lengths about the ends of blocks, and the longest that are taken.
var edges = []int{0, 1, 15, 16, 17, 32, 33, api.MaxText - 1, api.MaxText}

// keys is keys of both lengths: of noughts, of ff alone, and others.
func keys() [][]byte {
	var list [][]byte
	for _, size := range []int{16, 32} {
		list = append(list, make([]byte, size), bytes.Repeat([]byte{0xff}, size), sample.Mingled(1, size), sample.Mingled(2, size))
	}
	return list
}

// nonces is nonces: of noughts, of ff alone, one that differs from the first in its last bit, and another one.
func nonces() [][]byte {
	return [][]byte{make([]byte, 12), bytes.Repeat([]byte{0xff}, 12), append(make([]byte, 11), 1), sample.Mingled(3, 12)}
}

// sealed is Seal's answer, which has to be one.
func sealed(t *testing.T, key, nonce, aad, text []byte) []byte {
	t.Helper()
	b, e := gcm.Seal(key, nonce, aad, text)
	if e != api.OK || len(b) != len(text)+16 {
		t.Fatalf("Seal(%x, %x, %d bytes, %d bytes): %d bytes, %v", key, nonce, len(aad), len(text), len(b), e)
	}
	return b
}

// opens holds it that Open answers the text want.
func opens(t *testing.T, key, nonce, aad, b, want []byte) {
	t.Helper()
	if text, e := gcm.Open(key, nonce, aad, b); !bytes.Equal(text, want) || e != api.OK {
		t.Errorf("Open with a key of %d bytes of %d and %d bytes: %d bytes, %v; want a text of %d, OK", len(key), len(aad), len(b), len(text), e, len(want))
	}
}

// unsealed holds it that Seal answers just the error.
func unsealed(t *testing.T, key, nonce, aad, text []byte, want api.Errno) {
	t.Helper()
	if b, e := gcm.Seal(key, nonce, aad, text); len(b) != 0 || e != want {
		t.Errorf("Seal with a key of %d bytes, a nonce of %d, of %d and %d bytes: %d bytes, %v; want %v", len(key), len(nonce), len(aad), len(text), len(b), e, want)
	}
}

// unopened holds it that Open answers just the error.
func unopened(t *testing.T, key, nonce, aad, b []byte, want api.Errno) {
	t.Helper()
	if text, e := gcm.Open(key, nonce, aad, b); len(text) != 0 || e != want {
		t.Errorf("Open with a key of %d bytes, a nonce of %d, of %d and %d bytes: %d bytes, %v; want %v", len(key), len(nonce), len(aad), len(b), len(text), e, want)
	}
}

// added is a and b, which are of one length, added bit by bit.
func added(a, b []byte) []byte {
	c := make([]byte, len(a))
	for i := range a {
		c[i] = a[i] ^ b[i]
	}
	return c
}

// tag is that of aad and the enciphered bytes, reckoned by the chapter's words.
func tag(t *testing.T, key, nonce, aad, enciphered []byte) []byte {
	t.Helper()
	c, e := aes.New(key)
	if e != api.OK {
		t.Fatalf("a cipher of %x: %v", key, e)
	}
	first, e := ctr.First(nonce)
	if e != api.OK {
		t.Fatalf("the first counter block of %x: %v", nonce, e)
	}
	h, _ := c.Encrypt([16]byte{})
	mask, _ := c.Encrypt(first)
	s := ghash.Sum(h, aad, enciphered)
	return added(s[:], mask[:])
}

// library is what Go's own GCM seals.
func library(t *testing.T, key, nonce, aad, text []byte) []byte {
	t.Helper()
	block, err := libaes.NewCipher(key)
	if err != nil {
		t.Fatal(err)
	}
	g, err := cipher.NewGCM(block)
	if err != nil {
		t.Fatal(err)
	}
	return g.Seal(nil, nonce, text, aad)
}

// The chapter's examples

func TestExamples(t *testing.T) {
	none := make([]byte, 16)
	first := sample.Raw(t, "58e2fccefa7e3061367f1d57a4e7455a")
	if b := sealed(t, none, none[:12], nil, nil); !bytes.Equal(b, first) {
		t.Errorf("Seal of none and none = %x; want %x", b, first)
	}
	second := sample.Raw(t, "0388dace60b6a392f328c2b971b2fe78ab6e47d42cec13bdf53a67b21257bddf")
	if b := sealed(t, none, none[:12], nil, none); !bytes.Equal(b, second) {
		t.Errorf("Seal of none and sixteen noughts = %x; want %x", b, second)
	}
	opens(t, none, none[:12], nil, first, nil)
	opens(t, none, none[:12], nil, second, none)
	for x := range 256 {
		other := bytes.Clone(first)
		other[15] = byte(x)
		if x != 0x5a {
			unopened(t, none, none[:12], nil, other, api.ErrTag)
		}
	}
	unopened(t, none, none[:12], nil, first[:15], api.ErrShort)
}

func TestKnownVectors(t *testing.T) {
	const (
		none   = "00000000000000000000000000000000"
		twelve = "000000000000000000000000"
		half   = "feffe9928665731c6d6a8f9467308308"
		nonce  = "cafebabefacedbaddecaf888"
		clear  = "d9313225f88406e5a55909c5aff5269a86a7a9531534f7da2e4c303d8a318a721c3c0c95956809532fcf0e2449a6b525b16aedf5aa0de657ba637b391aafd255"
		beside = "feedfacedeadbeeffeedfacedeadbeefabaddad2"
		small  = "42831ec2217774244b7221b784d0d49ce3aa212f2c02a4e035c17e2329aca12e21d514b25466931c7d8f6a5aac84aa051ba30b396a0aac973d58e091473f5985"
		great  = "522dc1f099567d07f47f37a32a84427d643a8cdcbfe5c0c97598a2bd2555d1aa8cb08e48590dbb3da7b08b1056828838c5f61e6393ba7a0abcc9f662898015ad"
	)
	for _, x := range []struct{ key, nonce, aad, text, want string }{
		{none, twelve, "", "", "58e2fccefa7e3061367f1d57a4e7455a"},
		{none, twelve, "", none, "0388dace60b6a392f328c2b971b2fe78" + "ab6e47d42cec13bdf53a67b21257bddf"},
		{half, nonce, "", clear, small + "4d5c2af327cd64a62cf35abd2ba6fab4"},
		{half, nonce, beside, clear[:120], small[:120] + "5bc94fbc3221a5db94fae95ae7121a47"},
		{none + none, twelve, "", "", "530f8afbc74536b9a963b4f1c4cb738b"},
		{none + none, twelve, "", none, "cea7403d4d606b6e074ec5d3baf39d18" + "d0d1c8a799996bf0265b98b5d48ab919"},
		{half + half, nonce, "", clear, great + "b094dac5d93471bdec1a502270e3cc6c"},
		{half + half, nonce, beside, clear[:120], great[:120] + "76fc6ece0f4e1768cddf8853bb2d551b"},
	} {
		key, nonce, aad, text, want := sample.Raw(t, x.key), sample.Raw(t, x.nonce), sample.Raw(t, x.aad), sample.Raw(t, x.text), sample.Raw(t, x.want)
		if b := sealed(t, key, nonce, aad, text); !bytes.Equal(b, want) {
			t.Errorf("Seal(%x, %x, %x, %x) = %x; want %x", key, nonce, aad, text, b, want)
		}
		opens(t, key, nonce, aad, want, text)
	}
}

// P6.1 (Seal)

func TestSealIsCryptAndTheTag(t *testing.T) {
	for _, key := range keys() {
		for _, nonce := range nonces() {
			for i, n := range lengths {
				text, aad := sample.Mingled(4, n), sample.Mingled(5, lengths[len(lengths)-1-i])
				enciphered, e := ctr.Crypt(key, nonce, text)
				if e != api.OK {
					t.Fatal(e)
				}
				b := sealed(t, key, nonce, aad, text)
				if !bytes.Equal(b[:n], enciphered) {
					t.Errorf("Seal(%x, %x, .., %x) begins with %x; want %x", key, nonce, text, b[:n], enciphered)
				}
				if want := tag(t, key, nonce, aad, enciphered); !bytes.Equal(b[n:], want) {
					t.Errorf("Seal(%x, %x, %x, %x) ends with %x; want the tag %x", key, nonce, aad, text, b[n:], want)
				}
			}
		}
	}
}

func TestSealIsWhatOthersSeal(t *testing.T) {
	for _, size := range []int{16, 32} {
		key, nonce := sample.Mingled(6, size), sample.Mingled(7, 12)
		for n := range 50 {
			for _, m := range lengths {
				text, aad := sample.Mingled(8, n), sample.Mingled(9, m)
				want := library(t, key, nonce, aad, text)
				if b := sealed(t, key, nonce, aad, text); !bytes.Equal(b, want) {
					t.Fatalf("Seal(%x, %x, %x, %x) = %x; want %x", key, nonce, aad, text, b, want)
				}
				opens(t, key, nonce, aad, want, text)
			}
		}
	}
}

func TestEachLengthThatIsTaken(t *testing.T) {
	long := sample.Mingled(10, api.MaxText)
	for _, key := range [][]byte{sample.Mingled(11, 16), sample.Mingled(12, 32)} {
		nonce := sample.Mingled(13, 12)
		for _, n := range edges {
			for _, x := range []struct{ aad, text []byte }{{nil, long[:n]}, {long[:n], nil}, {long[:n], long[:n]}} {
				want := library(t, key, nonce, x.aad, x.text)
				if b := sealed(t, key, nonce, x.aad, x.text); !bytes.Equal(b, want) {
					t.Errorf("Seal of %d and %d bytes under a key of %d tells something else", len(x.aad), len(x.text), len(key))
				}
				opens(t, key, nonce, x.aad, want, x.text)
			}
		}
	}
}

func TestSealRefusesLongOnes(t *testing.T) {
	long := make([]byte, api.MaxText+1)
	for _, key := range [][]byte{sample.Mingled(14, 16), sample.Mingled(15, 32)} {
		nonce := sample.Mingled(16, 12)
		for _, n := range edges {
			unsealed(t, key, nonce, long, long[:n], api.ErrLong)
			unsealed(t, key, nonce, long[:n], long, api.ErrLong)
		}
		unsealed(t, key, nonce, long, long, api.ErrLong)
		for _, n := range []int{api.MaxText + 2, api.MaxText + 16, 2 * api.MaxText, 1 << 24} {
			unsealed(t, key, nonce, make([]byte, n), nil, api.ErrLong)
			unsealed(t, key, nonce, nil, make([]byte, n), api.ErrLong)
		}
	}
}

// P6.2 (Open)

func TestWhatWasSealedIsOpened(t *testing.T) {
	for _, key := range keys() {
		for _, nonce := range nonces() {
			for _, n := range lengths {
				for _, m := range []int{0, 1, 16, 33} {
					for _, text := range [][]byte{make([]byte, n), bytes.Repeat([]byte{0xff}, n), sample.Mingled(17, n)} {
						aad := sample.Mingled(18, m)
						opens(t, key, nonce, aad, sealed(t, key, nonce, aad, text), text)
					}
				}
			}
		}
	}
}

func TestOpenOfEachLength(t *testing.T) {
	long := sample.Mingled(19, api.MaxText+17)
	for _, key := range [][]byte{sample.Mingled(20, 16), sample.Mingled(21, 32)} {
		nonce := sample.Mingled(22, 12)
		for n := range 16 {
			unopened(t, key, nonce, nil, long[:n], api.ErrShort)
			unopened(t, key, nonce, long[:api.MaxText], long[:n], api.ErrShort)
		}
		unopened(t, key, nonce, nil, nil, api.ErrShort)
		for _, n := range []int{16, 17, 32, 33, api.MaxText + 15, api.MaxText + 16} {
			unopened(t, key, nonce, nil, long[:n], api.ErrTag)
			text := long[:n-16]
			opens(t, key, nonce, nil, sealed(t, key, nonce, nil, text), text)
			opens(t, key, nonce, long[:api.MaxText], sealed(t, key, nonce, long[:api.MaxText], text), text)
		}
		for _, n := range []int{api.MaxText + 17, api.MaxText + 32, 2 * api.MaxText, 1 << 24} {
			unopened(t, key, nonce, nil, make([]byte, n), api.ErrLong)
			unopened(t, key, nonce, make([]byte, n), make([]byte, 16), api.ErrLong)
		}
		unopened(t, key, nonce, long[:api.MaxText+1], make([]byte, 16), api.ErrLong)
	}
}

func TestWhatIsLongerThanMayBeIsRefusedWithItsRightTag(t *testing.T) {
	key, nonce, long := sample.Mingled(23, 32), sample.Mingled(24, 12), sample.Mingled(25, api.MaxText+1)
	unopened(t, key, nonce, nil, library(t, key, nonce, nil, long), api.ErrLong)
	unopened(t, key, nonce, long, library(t, key, nonce, long, nil), api.ErrLong)
	unopened(t, key, nonce, nil, library(t, key, nonce, nil, nil)[:15], api.ErrShort)
}

func TestOpenIsJustOfTheTagOfWhatIsThere(t *testing.T) {
	for _, key := range keys() {
		nonce, aad, b := sample.Mingled(26, 12), sample.Mingled(27, 20), sample.Mingled(28, 40)
		want, e := ctr.Crypt(key, nonce, b)
		if e != api.OK {
			t.Fatal(e)
		}
		// Nobody sealed these bytes, yet with their tag they are opened.
		right := tag(t, key, nonce, aad, b)
		opens(t, key, nonce, aad, slices.Concat(b, right), want)
		for _, end := range [][]byte{make([]byte, 16), b[:16], added(right, bytes.Repeat([]byte{0xff}, 16)), tag(t, key, nonce, nil, b), tag(t, key, nonce, aad, want), tag(t, key, nonce, aad, b[:39])} {
			unopened(t, key, nonce, aad, slices.Concat(b, end), api.ErrTag)
		}
	}
}

// others calls f with each one byte of b another one, in turn, and sets it back.
func others(b []byte, f func()) {
	for at, was := range b {
		for x := 1; x < 256; x++ {
			b[at] = was ^ byte(x)
			f()
		}
		b[at] = was
	}
}

func TestAnyOtherByteIsRefused(t *testing.T) {
	for _, size := range []int{16, 32} {
		key, nonce, aad, text := sample.Mingled(29, size), sample.Mingled(30, 12), sample.Mingled(31, 17), sample.Mingled(32, 18)
		b := sealed(t, key, nonce, aad, text)
		for _, part := range [][]byte{key, nonce, aad, b} {
			others(part, func() { unopened(t, key, nonce, aad, b, api.ErrTag) })
		}
		opens(t, key, nonce, aad, b, text)
	}
}

func TestAnyOtherByteOfTheLongestIsRefused(t *testing.T) {
	key, nonce, aad, text := sample.Mingled(33, 16), sample.Mingled(34, 12), sample.Mingled(35, api.MaxText), sample.Mingled(36, api.MaxText)
	b := sealed(t, key, nonce, aad, text)
	for _, part := range [][]byte{aad, b} {
		places := []int{0, 1, 15, 16, 32767, 32768, len(part) - 33, len(part) - 32, len(part) - 18, len(part) - 17, len(part) - 16, len(part) - 2, len(part) - 1}
		for _, at := range places {
			for _, x := range []byte{1, 0x80} {
				part[at] ^= x
				unopened(t, key, nonce, aad, b, api.ErrTag)
				part[at] ^= x
			}
		}
	}
	opens(t, key, nonce, aad, b, text)
}

func TestTwoOtherBytesDoNotMakeUpForEachOther(t *testing.T) {
	key, nonce, aad, text := sample.Mingled(37, 16), sample.Mingled(38, 12), sample.Mingled(39, 3), sample.Mingled(40, 3)
	b := sealed(t, key, nonce, aad, text)
	for i := range b {
		for j := range i {
			for _, x := range []byte{1, 0x80, 0xff} {
				b[i], b[j] = b[i]^x, b[j]^x
				unopened(t, key, nonce, aad, b, api.ErrTag)
				b[i], b[j] = b[i]^x, b[j]^x
			}
		}
	}
	opens(t, key, nonce, aad, b, text)
}

func TestMovedBordersAreRefused(t *testing.T) {
	key, nonce, all := sample.Mingled(41, 32), sample.Mingled(42, 12), make([]byte, 64)
	for _, n := range lengths {
		aad, text := all[:16], all[:n]
		b := sealed(t, key, nonce, aad, text)
		for _, m := range []int{0, 15, 17, 32} {
			unopened(t, key, nonce, all[:m], b, api.ErrTag)
		}
		for end := 16; end < len(b); end++ {
			unopened(t, key, nonce, aad, b[:end], api.ErrTag)
			unopened(t, key, nonce, aad, b[len(b)-end:], api.ErrTag)
		}
		unopened(t, key, nonce, aad, append(bytes.Clone(b), 0), api.ErrTag)
		unopened(t, key, nonce, aad, append([]byte{0}, b...), api.ErrTag)
		if n != 0 {
			// What stood enciphered stands beside now: the hash goes over the same bytes but for their numbers.
			unopened(t, key, nonce, slices.Concat(aad, b[:n]), b[n:], api.ErrTag)
		}
		unopened(t, key, nonce, nil, slices.Concat(aad, b), api.ErrTag)
	}
}

// Both calls' refusals

func TestKeysOfOtherLengthsAreRefused(t *testing.T) {
	room, nonce, text := sample.Mingled(43, 80), sample.Mingled(44, 12), sample.Mingled(45, 20)
	list := [][]byte{nil, {}, make([]byte, api.MaxText), room}
	for n := range 65 {
		if n != 16 && n != 32 {
			list = append(list, room[:n], sample.Mingled(46, n))
		}
	}
	for _, key := range list {
		unsealed(t, key, nonce, text, text, api.ErrArg)
		unopened(t, key, nonce, text, text, api.ErrArg)
	}
	for _, size := range []int{16, 32} {
		opens(t, room[:size], nonce, text, sealed(t, room[:size], nonce, text, text), text)
	}
}

func TestNoncesOfOtherLengthsAreRefused(t *testing.T) {
	room, text := sample.Mingled(47, 64), sample.Mingled(48, 20)
	list := [][]byte{nil, {}, make([]byte, 11), make([]byte, 13), room}
	for n := range 33 {
		if n != 12 {
			list = append(list, room[:n])
		}
	}
	for _, key := range [][]byte{sample.Mingled(49, 16), sample.Mingled(50, 32)} {
		for _, nonce := range list {
			unsealed(t, key, nonce, text, text, api.ErrArg)
			unopened(t, key, nonce, text, text, api.ErrArg)
		}
		opens(t, key, room[:12], text, sealed(t, key, room[:12], text, text), text)
	}
}

func TestWhichRefusalComesFirst(t *testing.T) {
	long := make([]byte, api.MaxText+17)
	for _, size := range []int{0, 15, 16, 17, 24, 31, 32, 33} {
		for _, n := range []int{0, 11, 12, 13} {
			key, nonce := long[:size], long[:n]
			right := (size == 16 || size == 32) && n == 12
			for _, aad := range [][]byte{nil, long[:api.MaxText], long[:api.MaxText+1], long} {
				for _, m := range []int{0, 15, 16, 17, api.MaxText, api.MaxText + 1, api.MaxText + 16, api.MaxText + 17} {
					unopened(t, key, nonce, aad, long[:m], firstRefusal(right, len(aad), m))
					if e := firstRefusal(right, len(aad), m+16); e != api.ErrTag {
						unsealed(t, key, nonce, aad, long[:m], e)
					}
				}
			}
		}
	}
	unsealed(t, nil, nil, nil, nil, api.ErrArg)
	unopened(t, nil, nil, nil, nil, api.ErrArg)
}

// firstRefusal is that of so many sealed bytes with no right tag, and so many beside; right tells whether the key's length and the nonce's are.
func firstRefusal(right bool, beside, sealed int) api.Errno {
	switch {
	case !right:
		return api.ErrArg
	case beside > api.MaxText || sealed > api.MaxText+16:
		return api.ErrLong
	case sealed < 16:
		return api.ErrShort
	}
	return api.ErrTag
}

// What follows

func TestTwoTextsDifferWhereTheyDiffer(t *testing.T) {
	for _, key := range keys() {
		nonce := sample.Mingled(51, 12)
		for _, n := range lengths {
			one, two := sample.Mingled(52, n), sample.Mingled(53, n)
			copy(two[n/3:n/2], one[n/3:n/2])
			a, b := sealed(t, key, nonce, sample.Mingled(54, 5), one), sealed(t, key, nonce, sample.Mingled(55, 40), two)
			if !bytes.Equal(added(a[:n], b[:n]), added(one, two)) {
				t.Errorf("%x and %x are enciphered to %x and %x under %x", one, two, a[:n], b[:n], key)
			}
		}
	}
}

func TestBytesBesideChangeTheTagAlone(t *testing.T) {
	for _, key := range keys() {
		nonce := sample.Mingled(56, 12)
		for _, n := range lengths {
			text := sample.Mingled(57, n)
			was := sealed(t, key, nonce, nil, text)
			for _, aad := range [][]byte{{0}, make([]byte, 16), sample.Mingled(58, 33), text} {
				b := sealed(t, key, nonce, aad, text)
				if !bytes.Equal(b[:n], was[:n]) {
					t.Errorf("with %x beside %x is enciphered to %x; want %x", aad, text, b[:n], was[:n])
				}
				if len(aad) != 0 && bytes.Equal(b[n:], was[n:]) {
					t.Errorf("the tag does not see %x beside %x", aad, text)
				}
			}
		}
	}
}

func TestTheTagSeesEachByte(t *testing.T) {
	key, nonce, aad, text := sample.Mingled(59, 32), sample.Mingled(60, 12), sample.Mingled(61, 17), sample.Mingled(62, 17)
	was := sealed(t, key, nonce, aad, text)[17:]
	for _, part := range [][]byte{key, nonce, aad, text} {
		others(part, func() {
			if bytes.Equal(sealed(t, key, nonce, aad, text)[17:], was) {
				t.Errorf("the tag of %x, %x, %x, %x is that of others", key, nonce, aad, text)
			}
		})
	}
}

// R3, R4, R5

func TestNilAndEmptyAreOne(t *testing.T) {
	room := sample.Mingled(63, 40)
	for _, key := range keys() {
		nonce := sample.Mingled(64, 12)
		want := library(t, key, nonce, nil, nil)
		for _, aad := range [][]byte{nil, {}, room[:0], room[40:]} {
			for _, text := range [][]byte{nil, {}, room[:0], room[40:]} {
				if b := sealed(t, key, nonce, aad, text); !bytes.Equal(b, want) {
					t.Errorf("Seal of none and none = %x; want %x", b, want)
				}
			}
			opens(t, key, nonce, aad, want, nil)
		}
		unopened(t, key, nonce, nil, []byte{}, api.ErrShort)
	}
}

func TestWhatIsHandedInStays(t *testing.T) {
	for _, size := range []int{16, 32} {
		for _, n := range lengths {
			room := sample.Mingled(65, 240)
			// The spare room of the nonce has the key in it, that of the key the bytes beside, that of those the text.
			nonce, key, aad, text := room[8:20], room[24:24+size], room[60:60+n], room[120:120+n]
			want := library(t, key, nonce, aad, text)
			b := room[170 : 170+n+16]
			copy(b, want)
			was := bytes.Clone(room)
			for range 2 {
				if c := sealed(t, key, nonce, aad, text); !bytes.Equal(c, want) {
					t.Errorf("Seal of %d bytes in the midst of others = %x; want %x", n, c, want)
				}
				opens(t, key, nonce, aad, b, text)
				unopened(t, key, nonce, aad, b[:n+15], firstRefusal(true, n, n+15))
				unopened(t, key, nonce, room[:n+1], b, api.ErrTag)
				unsealed(t, room[:15], nonce, aad, text, api.ErrArg)
				unopened(t, key, room[:13], aad, b, api.ErrArg)
			}
			if !bytes.Equal(room, was) {
				t.Errorf("a call with a key of %d bytes and a text of %d changed the room about them", size, n)
			}
		}
	}
}

func TestLongOnesThatAreHandedInStay(t *testing.T) {
	room := sample.Mingled(66, api.MaxText+17)
	was := bytes.Clone(room)
	key, nonce := room[:32], room[:12]
	unsealed(t, key, nonce, room, room, api.ErrLong)
	unopened(t, key, nonce, nil, room, api.ErrLong)
	unopened(t, key, nonce, room[:api.MaxText], room[:api.MaxText+16], api.ErrTag)
	sealed(t, key, nonce, room[:api.MaxText], room[:api.MaxText])
	if !bytes.Equal(room, was) {
		t.Error("long bytes were changed")
	}
}

func TestOneTextAsAll(t *testing.T) {
	b := sample.Mingled(67, 32)
	was := bytes.Clone(b)
	want := library(t, was, was[:12], was, was)
	got := sealed(t, b, b[:12], b, b)
	if !bytes.Equal(got, want) || !bytes.Equal(b, was) {
		t.Errorf("Seal of a text under itself = %x; want %x", got, want)
	}
	opens(t, b, b[:12], b, got, b)
	// Beside the sealed bytes stand themselves, and the nonce is of them.
	unopened(t, got[:32], got[:12], got, got, api.ErrTag)
	if !bytes.Equal(got, want) || !bytes.Equal(b, was) {
		t.Error("Open changed what it was handed")
	}
}

func TestAnswersAreNewMemory(t *testing.T) {
	for _, n := range lengths {
		key, nonce, aad, text := sample.Mingled(68, 32), sample.Mingled(69, 12), sample.Mingled(70, n), sample.Mingled(71, n)
		seal := func() []byte { return sealed(t, key, nonce, aad, text) }
		b := seal()
		open := func() []byte {
			c, e := gcm.Open(key, nonce, aad, b)
			if e != api.OK {
				t.Fatalf("Open of %d bytes: %v", len(b), e)
			}
			return c
		}
		given := [][]byte{key, nonce, aad, text, b}
		for _, call := range []func() []byte{seal, open} {
			first, second := call(), call()
			want, was := bytes.Clone(second), slices.Concat(given...)
			first = first[:cap(first)]
			for i := range first {
				first[i] = ^first[i]
			}
			if !bytes.Equal(slices.Concat(given...), was) {
				t.Errorf("an answer of %d bytes shares memory with what was handed in", len(want))
			}
			if !bytes.Equal(second, want) {
				t.Errorf("an answer of %d bytes shares memory with another one", len(want))
			}
		}
		sealedOne, openedOne := seal(), open()
		wantSealed, wantOpened := bytes.Clone(sealedOne), bytes.Clone(openedOne)
		for _, x := range given {
			clear(x)
		}
		if !bytes.Equal(sealedOne, wantSealed) || !bytes.Equal(openedOne, wantOpened) {
			t.Errorf("an answer of a text of %d bytes changes with what was handed in", n)
		}
	}
}

func TestWhatLiesBesideCountsNothing(t *testing.T) {
	roomy := func(b []byte) []byte { return append(bytes.Clone(b), sample.Mingled(72, 64)...)[:len(b)] }
	for _, n := range lengths {
		key, nonce, aad, text := sample.Mingled(73, 16), sample.Mingled(74, 12), sample.Mingled(75, n), sample.Mingled(76, n)
		want := sealed(t, slices.Clip(key), slices.Clip(nonce), slices.Clip(aad), slices.Clip(text))
		if b := sealed(t, roomy(key), roomy(nonce), roomy(aad), roomy(text)); !bytes.Equal(b, want) {
			t.Errorf("with room behind them Seal of %d bytes = %x; want %x", n, b, want)
		}
		opens(t, roomy(key), roomy(nonce), roomy(aad), roomy(want), text)
	}
}

func TestAnswersHangOnNothingThatWasAsked(t *testing.T) {
	key, nonce, aad, text := sample.Mingled(77, 16), sample.Mingled(78, 12), sample.Mingled(79, 21), sample.Mingled(80, 49)
	was := sealed(t, key, nonce, aad, text)
	for _, other := range keys() {
		for _, n := range lengths {
			b := sealed(t, other, sample.Mingled(uint32(n), 12), text, sample.Mingled(81, n))
			unopened(t, key, nonce, aad, b, api.ErrTag)
			unsealed(t, key, nonce[:n%12], aad, text, api.ErrArg)
		}
	}
	if b := sealed(t, key, nonce, aad, text); !bytes.Equal(b, was) {
		t.Errorf("Seal tells %x, then %x", was, b)
	}
	opens(t, key, nonce, aad, was, text)
}
