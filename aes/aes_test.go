package aes_test

import (
	"bytes"
	"slices"
	"testing"

	"donjon/aes"
	"donjon/api"
	"donjon/galois"
	"donjon/octet"
	"donjon/sample"
)

// block is the sixteen bytes that the digits tell.
func block(t *testing.T, digits string) [16]byte {
	t.Helper()
	return [16]byte(sample.Raw(t, digits))
}

// rising is n bytes, each one more than the one ahead of it.
func rising(first byte, n int) []byte {
	b := make([]byte, n)
	for i := range b {
		b[i] = first + byte(i)
	}
	return b
}

// keys is some keys of 16 and of 32 bytes: of noughts, of ff alone, with one bit set, and others.
func keys() [][]byte {
	var list [][]byte
	for _, size := range []int{16, 32} {
		list = append(list, make([]byte, size), bytes.Repeat([]byte{0xff}, size), rising(0, size), rising(0xf4, size))
		for _, bit := range []int{0, 7, 8, 8*size - 8, 8*size - 1} {
			key := make([]byte, size)
			key[bit/8] = 0x80 >> (bit % 8)
			list = append(list, key)
		}
		n := uint32(size)
		for range 20 {
			key := make([]byte, size)
			for i := range key {
				n = n*1664525 + 1013904223
				key[i] = byte(n >> 24)
			}
			list = append(list, key)
		}
	}
	return list
}

// blocks is the block of noughts, the one of ff alone, each with one bit set, and others.
func blocks() [][16]byte {
	list := [][16]byte{{}, [16]byte(bytes.Repeat([]byte{0xff}, 16)), [16]byte(rising(0, 16)), [16]byte(rising(0xf8, 16))}
	for bit := range 128 {
		var b [16]byte
		b[bit/8] = 0x80 >> (bit % 8)
		list = append(list, b)
	}
	return list
}

// cipher is New's of the key.
func cipher(t *testing.T, key []byte) *aes.Cipher {
	t.Helper()
	c, e := aes.New(key)
	if c == nil || e != api.OK {
		t.Fatalf("New(%x) = %v, %v", key, c, e)
	}
	return c
}

func encrypted(t *testing.T, c *aes.Cipher, b [16]byte) [16]byte {
	t.Helper()
	x, e := c.Encrypt(b)
	if e != api.OK {
		t.Fatalf("Encrypt(%x): %v", b, e)
	}
	return x
}

func decrypted(t *testing.T, c *aes.Cipher, b [16]byte) [16]byte {
	t.Helper()
	x, e := c.Decrypt(b)
	if e != api.OK {
		t.Fatalf("Decrypt(%x): %v", b, e)
	}
	return x
}

// reckoned is the key's words by the chapter's, byte by byte.
func reckoned(key []byte) [][4]byte {
	k := len(key) / 4
	flat := bytes.Clone(key)
	for i := k; i < 4*(k+6+1); i++ {
		near := bytes.Clone(flat[4*i-4:])
		if i%k == 0 {
			near = append(near[1:], near[0])
		}
		for j := range near {
			if i%k == 0 || k == 8 && (i-4)%8 == 0 {
				near[j] = galois.Sub(near[j])
			}
			near[j] ^= flat[4*(i-k)+j]
		}
		if i%k == 0 {
			near[0] ^= galois.Power(2, uint32(i/k)-1)
		}
		flat = append(flat, near...)
	}
	var words [][4]byte
	for w := range slices.Chunk(flat, 4) {
		words = append(words, [4]byte(w))
	}
	return words
}

// rows is a state, row by row.
type rows [4][4]byte

// add is s and the four words, its columns, added.
func (s rows) add(words [][4]byte) rows {
	for p := range 4 {
		for q := range 4 {
			s[p][q] ^= words[q][p]
		}
	}
	return s
}

// enciphered is b enciphered under the words, by the chapter's words.
func enciphered(words [][4]byte, b [16]byte) [16]byte {
	var s rows
	for i, x := range b {
		s[i%4][i/4] = x
	}
	s = s.add(words[:4])
	last := len(words)/4 - 1
	for j := 1; j <= last; j++ {
		var turned rows
		for p := range 4 {
			for q := range 4 {
				turned[p][(q+4-p)%4] = galois.Sub(s[p][q])
			}
		}
		s = turned
		for q := 0; q < 4 && j < last; q++ {
			column := galois.Mix([4]byte{s[0][q], s[1][q], s[2][q], s[3][q]})
			s[0][q], s[1][q], s[2][q], s[3][q] = column[0], column[1], column[2], column[3]
		}
		s = s.add(words[4*j : 4*j+4])
	}
	for i := range b {
		b[i] = s[i%4][i/4]
	}
	return b
}

// P3.1 (Words, New)

func TestWordsExamples(t *testing.T) {
	for _, c := range []struct {
		key  string
		many int
		want map[int]string
	}{
		{"2b7e151628aed2a6abf7158809cf4f3c", 44, map[int]string{
			0: "2b7e1516", 3: "09cf4f3c", 4: "a0fafe17", 5: "88542cb1", 7: "2a6c7605", 8: "f2c295f2", 36: "ac7766f3", 40: "d014f9a8", 43: "b6630ca6",
		}},
		{"603deb1015ca71be2b73aef0857d77811f352c073b6108d72d9810a30914dff4", 60, map[int]string{
			0: "603deb10", 7: "0914dff4", 8: "9ba35411", 9: "8e6925af", 11: "2067fcde", 12: "a8b09c1a", 16: "d59aecb8", 56: "fe4890d1", 59: "706c631e",
		}},
	} {
		words, e := aes.Words(sample.Raw(t, c.key))
		if e != api.OK || len(words) != c.many {
			t.Fatalf("Words(%s): %d, %v; want %d", c.key, len(words), e, c.many)
		}
		for i, want := range c.want {
			if w := octet.Hex(words[i][:]); w != want {
				t.Errorf("Words(%s): the word %d is %s; want %s", c.key, i, w, want)
			}
		}
	}
}

func TestWordsOfManyKeys(t *testing.T) {
	for _, key := range keys() {
		words, e := aes.Words(key)
		if want := reckoned(key); e != api.OK || !slices.Equal(words, want) {
			t.Errorf("Words(%x) = %x, %v; want %x", key, words, e, want)
		}
	}
}

func TestKeysOfOtherLengthsAreRefused(t *testing.T) {
	room := rising(0, 64)
	list := [][]byte{nil, {}}
	for size := range 65 {
		if size != 16 && size != 32 {
			list = append(list, rising(1, size), room[:size])
		}
	}
	list = append(list, make([]byte, 1<<16), make([]byte, 272), make([]byte, 288))
	for _, key := range list {
		if words, e := aes.Words(key); len(words) != 0 || e != api.ErrArg {
			t.Errorf("Words of %d bytes = %x, %v; want ErrArg", len(key), words, e)
		}
		if c, e := aes.New(key); c != nil || e != api.ErrArg {
			t.Errorf("New of %d bytes = %v, %v; want ErrArg", len(key), c, e)
		}
	}
}

func TestKeysOfSixteenAndThirtyTwoAreTaken(t *testing.T) {
	room := rising(0, 64)
	for size, many := range map[int]int{16: 44, 32: 60} {
		for _, key := range [][]byte{rising(1, size), room[:size], room[size : 2*size]} {
			if words, e := aes.Words(key); len(words) != many || e != api.OK {
				t.Errorf("Words of %d bytes: %d, %v; want %d", size, len(words), e, many)
			}
			if c, e := aes.New(key); c == nil || e != api.OK {
				t.Errorf("New of %d bytes = %v, %v", size, c, e)
			}
		}
	}
}

// P3.2 (Encrypt, Decrypt)

func TestCipherExamples(t *testing.T) {
	const other = "603deb1015ca71be2b73aef0857d77811f352c073b6108d72d9810a30914dff4"
	for _, c := range []struct{ key, clear, enciphered string }{
		{"000102030405060708090a0b0c0d0e0f", "00112233445566778899aabbccddeeff", "69c4e0d86a7b0430d8cdb78070b4c55a"},
		{"000102030405060708090a0b0c0d0e0f101112131415161718191a1b1c1d1e1f", "00112233445566778899aabbccddeeff", "8ea2b7ca516745bfeafc49904b496089"},
		{"2b7e151628aed2a6abf7158809cf4f3c", "3243f6a8885a308d313198a2e0370734", "3925841d02dc09fbdc118597196a0b32"},
		{"2b7e151628aed2a6abf7158809cf4f3c", "6bc1bee22e409f96e93d7e117393172a", "3ad77bb40d7a3660a89ecaf32466ef97"},
		{"2b7e151628aed2a6abf7158809cf4f3c", "ae2d8a571e03ac9c9eb76fac45af8e51", "f5d3d58503b9699de785895a96fdbaaf"},
		{other, "6bc1bee22e409f96e93d7e117393172a", "f3eed1bdb5d2a03c064b5a7e3db181f8"},
		{other, "ae2d8a571e03ac9c9eb76fac45af8e51", "591ccb10d410ed26dc5ba74a31362870"},
		{"00000000000000000000000000000000", "00000000000000000000000000000000", "66e94bd4ef8a2c3b884cfa59ca342b2e"},
		{"0000000000000000000000000000000000000000000000000000000000000000", "00000000000000000000000000000000", "dc95c078a2408989ad48a21492842087"},
	} {
		made := cipher(t, sample.Raw(t, c.key))
		if x := encrypted(t, made, block(t, c.clear)); x != block(t, c.enciphered) {
			t.Errorf("Encrypt(%s) under %s = %x; want %s", c.clear, c.key, x, c.enciphered)
		}
		if x := decrypted(t, made, block(t, c.enciphered)); x != block(t, c.clear) {
			t.Errorf("Decrypt(%s) under %s = %x; want %s", c.enciphered, c.key, x, c.clear)
		}
	}
}

func TestCipherByItsWords(t *testing.T) {
	for _, key := range keys() {
		c, words := cipher(t, key), reckoned(key)
		for _, b := range blocks() {
			want := enciphered(words, b)
			if x := encrypted(t, c, b); x != want {
				t.Fatalf("Encrypt(%x) under %x = %x; want %x", b, key, x, want)
			}
			if x := decrypted(t, c, want); x != b {
				t.Fatalf("Decrypt(%x) under %x = %x; want %x", want, key, x, b)
			}
		}
	}
}

func TestCipherLeadsBack(t *testing.T) {
	for _, key := range keys() {
		c := cipher(t, key)
		there, here := map[[16]byte]int{}, map[[16]byte]int{}
		for _, b := range blocks() {
			x, y := encrypted(t, c, b), decrypted(t, c, b)
			if back := decrypted(t, c, x); back != b {
				t.Errorf("under %x: %x was enciphered to %x, and that deciphered to %x", key, b, x, back)
			}
			if back := encrypted(t, c, y); back != b {
				t.Errorf("under %x: %x was deciphered to %x, and that enciphered to %x", key, b, y, back)
			}
			there[x]++
			here[y]++
		}
		if n := len(blocks()); len(there) != n || len(here) != n {
			t.Errorf("under %x: %d unlike blocks were enciphered to %d, deciphered to %d", key, n, len(there), len(here))
		}
	}
}

func TestCipherThatIsNotThere(t *testing.T) {
	refused, _ := aes.New(nil)
	for _, c := range []*aes.Cipher{nil, refused, {}} {
		for _, b := range blocks() {
			if x, e := c.Encrypt(b); x != [16]byte{} || e != api.ErrNil {
				t.Fatalf("Encrypt(%x) of none = %x, %v; want ErrNil", b, x, e)
			}
			if x, e := c.Decrypt(b); x != [16]byte{} || e != api.ErrNil {
				t.Fatalf("Decrypt(%x) of none = %x, %v; want ErrNil", b, x, e)
			}
		}
	}
}

// R3, R5

func TestKeysAndBlocksStayAsTheyWere(t *testing.T) {
	for _, key := range keys() {
		room := append(append(rising(1, 8), key...), rising(9, 40)...)
		was := bytes.Clone(room)
		handed := room[8 : 8+len(key)]
		aes.Words(handed)
		c := cipher(t, handed)
		for _, b := range blocks() {
			kept := b
			encrypted(t, c, b)
			decrypted(t, c, b)
			if b != kept {
				t.Fatalf("the block %x was changed to %x", kept, b)
			}
		}
		if !bytes.Equal(room, was) {
			t.Errorf("the key %x or what lies beside it was changed", key)
		}
	}
}

func TestCipherKeepsNothingOfItsKey(t *testing.T) {
	for _, key := range keys() {
		b := [16]byte(rising(3, 16))
		handed := bytes.Clone(key)
		c := cipher(t, handed)
		words, _ := aes.Words(handed)
		x, y := encrypted(t, c, b), decrypted(t, c, b)
		for i := range handed {
			handed[i] ^= 0xa5
		}
		if again := encrypted(t, c, b); again != x {
			t.Errorf("Encrypt(%x) = %x, then, the key's bytes changed, %x", b, x, again)
		}
		if again := decrypted(t, c, b); again != y {
			t.Errorf("Decrypt(%x) = %x, then, the key's bytes changed, %x", b, y, again)
		}
		if !slices.Equal(words, reckoned(key)) {
			t.Errorf("the words of %x changed with the key's bytes", key)
		}
	}
}

func TestWordsMayBeChanged(t *testing.T) {
	for _, key := range keys() {
		b := [16]byte(rising(5, 16))
		c := cipher(t, key)
		x, y := encrypted(t, c, b), decrypted(t, c, b)
		first, _ := aes.Words(key)
		second, _ := aes.Words(key)
		for i := range first {
			first[i] = [4]byte{0xde, 0xad, byte(i), 1}
		}
		third, _ := aes.Words(key)
		if want := reckoned(key); !slices.Equal(second, want) || !slices.Equal(third, want) {
			t.Errorf("Words(%x) answers other words since an answer was changed", key)
		}
		late := cipher(t, key)
		for _, made := range []*aes.Cipher{c, late} {
			if encrypted(t, made, b) != x || decrypted(t, made, b) != y {
				t.Errorf("a cipher of %x answers otherwise since an answer of Words was changed", key)
			}
		}
	}
}

func TestCiphersStandApart(t *testing.T) {
	b := [16]byte(rising(7, 16))
	list := keys()
	var made []*aes.Cipher
	var first [][16]byte
	for _, key := range list {
		c := cipher(t, key)
		made, first = append(made, c), append(first, encrypted(t, c, b))
	}
	for i, c := range made {
		if x := encrypted(t, c, b); x != first[i] {
			t.Errorf("Encrypt(%x) under %x = %x, then, other ciphers made, %x", b, list[i], first[i], x)
		}
	}
}
