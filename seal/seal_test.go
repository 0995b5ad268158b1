package seal_test

import (
	"bytes"
	libaes "crypto/aes"
	"crypto/cipher"
	"encoding/binary"
	"fmt"
	"math"
	"slices"
	"testing"

	"donjon/aes"
	"donjon/api"
	"donjon/ctr"
	"donjon/ghash"
	"donjon/sample"
	"donjon/seal"
)

// label is a label of a leaf.
func label(tenant, page uint32, commit uint64) api.Label {
	return api.Label{Tenant: tenant, Kind: api.Leaf, Ref: api.Ref{Page: page, Commit: commit, Gen: 2}}
}

// example is the label L of the chapter's examples.
func example() api.Label { return label(5, 7, 9) }

// labels is labels that may be, each number of theirs 0, 1, the greatest, and of bytes that are all unlike.
func labels() []api.Label {
	numbers := []api.Label{
		{},
		{Tenant: 1, Level: 1, Ref: api.Ref{Page: 1, Commit: 1, Gen: 1}},
		{Tenant: math.MaxUint32, Level: math.MaxUint8, Ref: api.Ref{Page: math.MaxUint32, Commit: math.MaxUint64, Gen: math.MaxUint16}},
		{Tenant: 0xa1a2a3a4, Level: 0xb1, Ref: api.Ref{Page: 0xc1c2c3c4, Commit: 0xd1d2d3d4d5d6d7d8, Gen: 0xe1e2}},
	}
	var list []api.Label
	for _, l := range numbers {
		for _, l.Kind = range kinds() {
			list = append(list, l)
		}
	}
	return list
}

// kinds is the kinds that there are.
func kinds() []uint8 { return []uint8{1, 2, 3, 4} }

// turned is l with one of its numbers turned, each once; the kind to another one that there is.
func turned(l api.Label) map[string]api.Label {
	list := map[string]api.Label{}
	put := func(name string, change func(l *api.Label)) {
		m := l
		change(&m)
		list[name] = m
	}
	put("tenant", func(l *api.Label) { l.Tenant ^= 1 })
	put("tenant, highest", func(l *api.Label) { l.Tenant ^= 1 << 31 })
	put("kind", func(l *api.Label) { l.Kind = l.Kind%4 + 1 })
	put("level", func(l *api.Label) { l.Level ^= 1 })
	put("level, highest", func(l *api.Label) { l.Level ^= 1 << 7 })
	put("page", func(l *api.Label) { l.Ref.Page ^= 1 })
	put("page, highest", func(l *api.Label) { l.Ref.Page ^= 1 << 31 })
	put("commit", func(l *api.Label) { l.Ref.Commit ^= 1 })
	put("commit, highest", func(l *api.Label) { l.Ref.Commit ^= 1 << 63 })
	put("generation", func(l *api.Label) { l.Ref.Gen ^= 1 })
	put("generation, highest", func(l *api.Label) { l.Ref.Gen ^= 1 << 15 })
	return list
}

// inHead tells whether l and m differ in a number that their heads show.
func inHead(l, m api.Label) bool {
	return l.Kind != m.Kind || l.Level != m.Level || l.Ref.Commit != m.Ref.Commit || l.Ref.Gen != m.Ref.Gen
}

// page is Seal's answer, which has to be one.
func page(t *testing.T, key []byte, l api.Label, payload []byte) []byte {
	t.Helper()
	b, e := seal.Seal(key, l, payload)
	if len(b) != 256 || e != api.OK {
		t.Fatalf("Seal with a key of %d bytes for %v: %d bytes, %v; want 256, OK", len(key), l, len(b), e)
	}
	return b
}

// opens holds it that Open answers the payload want.
func opens(t *testing.T, key []byte, l api.Label, block, want []byte) {
	t.Helper()
	if b, e := seal.Open(key, l, block); !bytes.Equal(b, want) || e != api.OK {
		t.Errorf("Open with a key of %d bytes for %v: %x, %v; want %x, OK", len(key), l, b, e, want)
	}
}

// shut holds it that Open answers just the error.
func shut(t *testing.T, what string, key []byte, l api.Label, block []byte, want api.Errno) {
	t.Helper()
	if b, e := seal.Open(key, l, block); len(b) != 0 || e != want {
		t.Errorf("%s: Open with a key of %d bytes for %v of %d bytes: %d bytes, %v; want none, %v", what, len(key), l, len(block), len(b), e, want)
	}
}

// tells holds it that Told answers what l has.
func tells(t *testing.T, what string, block []byte, l api.Label) {
	t.Helper()
	kind, level, gen, commit, e := seal.Told(block)
	if kind != l.Kind || level != l.Level || gen != l.Ref.Gen || commit != l.Ref.Commit || e != api.OK {
		t.Errorf("%s: Told: %d, %d, %d, %d, %v; want those of %v, OK", what, kind, level, gen, commit, e, l)
	}
}

// untold holds it that Told answers just the error.
func untold(t *testing.T, what string, block []byte, want api.Errno) {
	t.Helper()
	kind, level, gen, commit, e := seal.Told(block)
	if kind != 0 || level != 0 || gen != 0 || commit != 0 || e != want {
		t.Errorf("%s: Told of %d bytes: %d, %d, %d, %d, %v; want noughts, %v", what, len(block), kind, level, gen, commit, e, want)
	}
}

// words is the head, the nonce and what stands beside, by the chapter's words.
func words(l api.Label) (head, nonce, aad []byte) {
	head = append(head, 0x43, 0x48, 0x54, 0x31, l.Kind, l.Level)
	head = binary.BigEndian.AppendUint16(head, l.Ref.Gen)
	head = binary.BigEndian.AppendUint64(head, l.Ref.Commit)
	nonce = binary.BigEndian.AppendUint32(nonce, l.Ref.Page)
	nonce = binary.BigEndian.AppendUint64(nonce, l.Ref.Commit)
	aad = binary.BigEndian.AppendUint32(aad, l.Tenant)
	aad = append(aad, l.Kind, l.Level)
	aad = binary.BigEndian.AppendUint16(aad, l.Ref.Gen)
	return head, nonce, aad
}

// reckoned is the sealed page by the chapter's words, and by Go's own GCM.
func reckoned(t *testing.T, key []byte, l api.Label, payload []byte) []byte {
	t.Helper()
	block, err := libaes.NewCipher(key)
	if err != nil {
		t.Fatal(err)
	}
	g, err := cipher.NewGCM(block)
	if err != nil {
		t.Fatal(err)
	}
	head, nonce, aad := words(l)
	return g.Seal(head, nonce, payload, aad)
}

// bytesOf holds it what the bytes of a label are.
func bytesOf(t *testing.T, l api.Label, head, nonce, aad []byte) {
	t.Helper()
	if b := seal.HeadOf(l); !bytes.Equal(b, head) {
		t.Errorf("HeadOf(%v) = %x; want %x", l, b, head)
	}
	if b := seal.NonceOf(l); !bytes.Equal(b, nonce) {
		t.Errorf("NonceOf(%v) = %x; want %x", l, b, nonce)
	}
	if b := seal.AadOf(l); !bytes.Equal(b, aad) {
		t.Errorf("AadOf(%v) = %x; want %x", l, b, aad)
	}
}

// The chapter's examples

func TestExamples(t *testing.T) {
	l := example()
	bytesOf(t, l, sample.Raw(t, "43485431 01 00 0002 0000000000000009"), sample.Raw(t, "00000007 0000000000000009"), sample.Raw(t, "00000005 01 00 0002"))

	key, p := sample.Mingled(1, 32), sample.Mingled(2, 224)
	_, e := seal.Seal(key, l, p[:223])
	sample.Is(t, "Seal with a payload of 223 bytes", e, api.ErrArg)
	none := l
	none.Kind = 0
	_, e = seal.Seal(key, none, p)
	sample.Is(t, "Seal with the kind 0", e, api.ErrArg)

	b := page(t, key, l, p)
	opens(t, key, l, b, p)
	shut(t, "the commit 8", key, label(5, 7, 8), b, api.ErrHead)
	shut(t, "the page 8", key, label(5, 8, 9), b, api.ErrTag)
	shut(t, "the tenant 6", key, label(6, 7, 9), b, api.ErrTag)

	r := seal.NewRing()
	sample.Is(t, "Add", r.Add(1, 3, key), api.OK)
	sample.Is(t, "Add again", r.Add(1, 3, key), api.ErrTwice)
	newest(t, r, 1, 3)
	unknown(t, r, 2)
	sample.Is(t, "Drop", r.Drop(1, 3), api.OK)
	gens(t, r, 1)

	g := seal.NewLog()
	notes(t, g, key, l, p)
	notes(t, g, key, l, p)
	notes(t, g, key, l, sample.Mingled(3, 224))
	twice(t, g, l)
}

// P10.1 (HeadOf, NonceOf, AadOf)

func TestBytesOfLabels(t *testing.T) {
	unlike := api.Label{Tenant: 0xa1a2a3a4, Kind: 0xb1, Level: 0xb2, Ref: api.Ref{Page: 0xc1c2c3c4, Commit: 0xd1d2d3d4d5d6d7d8, Gen: 0xe1e2}}
	bytesOf(t, unlike, sample.Raw(t, "43485431 b1 b2 e1e2 d1d2d3d4d5d6d7d8"), sample.Raw(t, "c1c2c3c4 d1d2d3d4d5d6d7d8"), sample.Raw(t, "a1a2a3a4 b1 b2 e1e2"))
	bytesOf(t, api.Label{}, sample.Raw(t, "43485431 00 00 0000 0000000000000000"), sample.Raw(t, "00000000 0000000000000000"), sample.Raw(t, "00000000 00 00 0000"))
	ones := api.Label{Tenant: 1, Kind: 1, Level: 1, Ref: api.Ref{Page: 1, Commit: 1, Gen: 1}}
	bytesOf(t, ones, sample.Raw(t, "43485431 01 01 0001 0000000000000001"), sample.Raw(t, "00000001 0000000000000001"), sample.Raw(t, "00000001 01 01 0001"))
	all := api.Label{Tenant: math.MaxUint32, Kind: 255, Level: 255, Ref: api.Ref{Page: math.MaxUint32, Commit: math.MaxUint64, Gen: math.MaxUint16}}
	bytesOf(t, all, sample.Raw(t, "43485431 ff ff ffff ffffffffffffffff"), sample.Raw(t, "ffffffff ffffffffffffffff"), sample.Raw(t, "ffffffff ff ff ffff"))
}

func TestBytesOfLabelsAsTheWordsSay(t *testing.T) {
	for _, l := range labels() {
		for _, m := range turned(l) {
			for _, m.Kind = range []uint8{0, 1, 2, 3, 4, 5, 255} {
				head, nonce, aad := words(m)
				bytesOf(t, m, head, nonce, aad)
			}
		}
	}
	for x := range 256 {
		for _, l := range []api.Label{{Kind: uint8(x)}, {Level: uint8(x)}, {Tenant: uint32(x) << 16, Ref: api.Ref{Page: uint32(x) << 8, Commit: uint64(x) << 40, Gen: uint16(x) << 8}}} {
			head, nonce, aad := words(l)
			bytesOf(t, l, head, nonce, aad)
		}
	}
}

func TestLabelsOfTheSameBytesAreTheSame(t *testing.T) {
	seen := map[string]api.Label{}
	put := func(l api.Label) {
		k := fmt.Sprintf("%x %x %x", seal.HeadOf(l), seal.NonceOf(l), seal.AadOf(l))
		if m, ok := seen[k]; ok && m != l {
			t.Errorf("%v and %v have the same bytes", l, m)
		}
		seen[k] = l
	}
	for _, l := range append(labels(), api.Label{}, api.Label{Kind: 5}, api.Label{Kind: 255}) {
		put(l)
		for _, m := range turned(l) {
			put(m)
		}
	}
}

// P10.2 (Seal)

func TestSealedPages(t *testing.T) {
	payloads := [][]byte{make([]byte, 224), bytes.Repeat([]byte{255}, 224), sample.Mingled(3, 224)}
	for i, l := range labels() {
		for _, size := range []int{16, 32} {
			key, p := sample.Mingled(uint32(i), size), payloads[i%len(payloads)]
			b, want := page(t, key, l, p), reckoned(t, key, l, p)
			if !bytes.Equal(b, want) {
				t.Errorf("Seal with a key of %d bytes for %v: %x; want %x", size, l, b, want)
			}
			opens(t, key, l, b, p)
			tells(t, "a sealed page", b, l)
		}
	}
	for _, key := range [][]byte{make([]byte, 16), bytes.Repeat([]byte{255}, 16), make([]byte, 32), bytes.Repeat([]byte{255}, 32)} {
		for _, p := range payloads {
			if b, want := page(t, key, example(), p), reckoned(t, key, example(), p); !bytes.Equal(b, want) {
				t.Errorf("Seal with the key %x: %x; want %x", key, b, want)
			}
		}
	}
}

// keySizes is lengths of keys about those that may be.
func keySizes() []int { return []int{-1, 0, 15, 16, 17, 24, 31, 32, 33, 48, 64} }

// sized is n bytes of no order; nil, if n is below 0.
func sized(start uint32, n int) []byte {
	if n < 0 {
		return nil
	}
	return sample.Mingled(start, n)
}

func TestWhatIsNotSealed(t *testing.T) {
	for _, size := range keySizes() {
		for _, kind := range []uint8{0, 1, 2, 3, 4, 5, 6, 127, 128, 254, 255} {
			for _, n := range []int{-1, 0, 1, 16, 223, 224, 225, 240, 256, 448} {
				key, p := sized(1, size), sized(2, n)
				l := example()
				l.Kind = kind
				b, e := seal.Seal(key, l, p)
				if (size == 16 || size == 32) && 1 <= kind && kind <= 4 && n == 224 {
					if !bytes.Equal(b, reckoned(t, key, l, p)) || e != api.OK {
						t.Errorf("Seal with a key of %d bytes, the kind %d: %x, %v", size, kind, b, e)
					}
				} else if len(b) != 0 || e != api.ErrArg {
					t.Errorf("Seal with a key of %d bytes, the kind %d, a payload of %d: %d bytes, %v; want none, ErrArg", size, kind, n, len(b), e)
				}
			}
		}
	}
}

// P10.2 (Open)

func TestErrorsOfOpenInTheirOrder(t *testing.T) {
	p := sample.Mingled(2, 224)
	for _, size := range keySizes() {
		for _, kind := range []uint8{0, 1, 2, 3, 4, 5, 255} {
			for _, n := range []int{-1, 0, 15, 16, 17, 240, 255, 256, 257, 272} {
				for wrong := range 4 {
					key := sized(1, size)
					l := example()
					l.Kind = kind
					block := sample.Mingled(9, 300)
					mayBe := (size == 16 || size == 32) && 1 <= kind && kind <= 4
					if mayBe {
						copy(block, reckoned(t, key, l, p))
					} else {
						copy(block, seal.HeadOf(l))
					}
					if wrong&1 != 0 {
						block[7] ^= 1
					}
					if wrong&2 != 0 {
						block[100] ^= 1
					}
					block = block[:max(n, 0)]
					if n < 0 {
						block = nil
					}
					want := api.OK
					switch {
					case !mayBe || n != 256:
						want = api.ErrArg
					case wrong&1 != 0:
						want = api.ErrHead
					case wrong&2 != 0:
						want = api.ErrTag
					default:
						opens(t, key, l, block, p)
						continue
					}
					shut(t, fmt.Sprint("wrong ", wrong), key, l, block, want)
				}
			}
		}
	}
}

func TestEachByteOfABlockIsTold(t *testing.T) {
	for _, size := range []int{16, 32} {
		key, p := sample.Mingled(1, size), sample.Mingled(2, 224)
		b := page(t, key, example(), p)
		for i := range b {
			for _, x := range []byte{1, 0x10, 0x80, 0xff} {
				c := bytes.Clone(b)
				c[i] ^= x
				want := api.ErrTag
				if i < 16 {
					want = api.ErrHead
				}
				shut(t, fmt.Sprintf("the byte %d changed by %x", i, x), key, example(), c, want)
			}
		}
		opens(t, key, example(), b, p)
	}
}

func TestEachFieldOfALabelIsTold(t *testing.T) {
	key, p := sample.Mingled(1, 32), sample.Mingled(2, 224)
	for _, l := range labels() {
		b := page(t, key, l, p)
		for what, m := range turned(l) {
			want := api.ErrTag
			if inHead(l, m) {
				want = api.ErrHead
			}
			shut(t, what, key, m, b, want)
			// A head that was written over to fit lets nobody in either.
			copy(b, seal.HeadOf(m))
			shut(t, what+", its head", key, m, b, api.ErrTag)
			copy(b, seal.HeadOf(l))
		}
		opens(t, key, l, b, p)
	}
}

func TestOtherKeysDoNotOpen(t *testing.T) {
	p := sample.Mingled(2, 224)
	long := sample.Mingled(1, 32)
	for _, key := range [][]byte{long, long[:16]} {
		b := page(t, key, example(), p)
		others := [][]byte{long, long[:16], long[16:], sample.Mingled(9, 16), sample.Mingled(9, 32), make([]byte, 16), make([]byte, 32)}
		for i := range key {
			other := bytes.Clone(key)
			other[i] ^= 1
			others = append(others, other)
		}
		for _, other := range others {
			if !bytes.Equal(other, key) {
				shut(t, "another key", other, example(), b, api.ErrTag)
			}
		}
		opens(t, key, example(), b, p)
	}
}

func TestBlocksThatAreNoPages(t *testing.T) {
	key := sample.Mingled(1, 16)
	shut(t, "noughts", key, example(), make([]byte, 256), api.ErrHead)
	shut(t, "mingled", key, example(), sample.Mingled(4, 256), api.ErrHead)
	shut(t, "a head, and noughts", key, example(), append(seal.HeadOf(example()), make([]byte, 240)...), api.ErrTag)
	shut(t, "a head, and other bytes", key, example(), append(seal.HeadOf(example()), sample.Mingled(4, 240)...), api.ErrTag)
}

// P10.2 (Told)

func TestToldOfBlocksOfOtherLengths(t *testing.T) {
	b := append(page(t, sample.Mingled(1, 16), example(), sample.Mingled(2, 224)), sample.Mingled(3, 300)...)
	for _, n := range []int{0, 1, 4, 15, 16, 17, 240, 255, 257, 272, 512} {
		untold(t, "a page", b[:n], api.ErrArg)
		untold(t, "noughts", make([]byte, n), api.ErrArg)
	}
	untold(t, "nil", nil, api.ErrArg)
	tells(t, "a page", b[:256], example())
}

func TestToldOfHeadsThatAreNone(t *testing.T) {
	b := page(t, sample.Mingled(1, 16), example(), sample.Mingled(2, 224))
	for i := range 4 {
		for x := range 255 {
			c := bytes.Clone(b)
			c[i] ^= byte(x + 1)
			untold(t, fmt.Sprintf("the byte %d changed by %x", i, x+1), c, api.ErrHead)
		}
	}
	for kind := range 256 {
		c := bytes.Clone(b)
		c[4] = byte(kind)
		if l := example(); 1 <= kind && kind <= 4 {
			l.Kind = uint8(kind)
			tells(t, "a page", c, l)
		} else {
			untold(t, fmt.Sprint("the kind ", kind), c, api.ErrHead)
		}
	}
	untold(t, "noughts", make([]byte, 256), api.ErrHead)
	untold(t, "bytes 255", bytes.Repeat([]byte{255}, 256), api.ErrHead)
	untold(t, "a page, one byte on", append([]byte{0}, b[:255]...), api.ErrHead)
}

// Told looks at the head alone: it does not ask whether the block opens.
func TestToldLooksAtTheHead(t *testing.T) {
	for _, l := range labels() {
		for what, m := range turned(l) {
			tells(t, what, append(seal.HeadOf(m), sample.Mingled(1, 240)...), m)
			tells(t, what, append(seal.HeadOf(m), make([]byte, 240)...), m)
		}
	}
	for x := range 256 {
		l := api.Label{Kind: api.Meta, Level: uint8(x), Ref: api.Ref{Gen: uint16(x) << 8, Commit: uint64(x) << 56}}
		tells(t, "a head", append(seal.HeadOf(l), make([]byte, 240)...), l)
	}
}

// P10.3 (rings)

// newest holds it that the tenant's newest generation is want.
func newest(t *testing.T, r *seal.Ring, tenant uint32, want uint16) {
	t.Helper()
	if gen, e := r.Newest(tenant); gen != want || e != api.OK {
		t.Errorf("Newest(%d): %d, %v; want %d, OK", tenant, gen, e, want)
	}
}

// unknown holds it that the tenant has no key.
func unknown(t *testing.T, r *seal.Ring, tenant uint32) {
	t.Helper()
	if gen, e := r.Newest(tenant); gen != 0 || e != api.ErrNone {
		t.Errorf("Newest(%d): %d, %v; want 0, ErrNone", tenant, gen, e)
	}
	gens(t, r, tenant)
}

// gens holds it which generations the tenant has.
func gens(t *testing.T, r *seal.Ring, tenant uint32, want ...uint16) {
	t.Helper()
	if list := r.Gens(tenant); !slices.Equal(list, want) {
		t.Errorf("Gens(%d): %v; want %v", tenant, list, want)
	}
}

// has holds it that the key is there.
func has(t *testing.T, r *seal.Ring, tenant uint32, gen uint16, want []byte) {
	t.Helper()
	if key, e := r.Key(tenant, gen); !bytes.Equal(key, want) || e != api.OK {
		t.Errorf("Key(%d, %d): %x, %v; want %x, OK", tenant, gen, key, e, want)
	}
}

// lacks holds it that there is no such key.
func lacks(t *testing.T, r *seal.Ring, tenant uint32, gen uint16) {
	t.Helper()
	if key, e := r.Key(tenant, gen); len(key) != 0 || e != api.ErrNone {
		t.Errorf("Key(%d, %d): %x, %v; want none, ErrNone", tenant, gen, key, e)
	}
}

// ring is a ring with these keys.
func ring(t *testing.T, list ...held) *seal.Ring {
	t.Helper()
	r := seal.NewRing()
	if r == nil {
		t.Fatal("NewRing answers none")
	}
	for _, h := range list {
		sample.Is(t, fmt.Sprintf("Add(%d, %d)", h.tenant, h.gen), r.Add(h.tenant, h.gen, h.key), api.OK)
	}
	return r
}

// What is held is a tenant's key.
type held struct {
	tenant uint32
	gen    uint16
	key    []byte
}

// three is keys of one tenant, of another, and of the store.
func three() []held {
	return []held{{0, 0, sample.Mingled(1, 32)}, {7, 5, sample.Mingled(2, 16)}, {7, 65535, sample.Mingled(3, 16)}, {math.MaxUint32, 65535, sample.Mingled(4, 32)}, {7, 0, sample.Mingled(5, 16)}}
}

func TestANewRing(t *testing.T) {
	r := ring(t)
	for _, tenant := range []uint32{0, 1, math.MaxUint32} {
		unknown(t, r, tenant)
		for _, gen := range []uint16{0, 1, 65535} {
			lacks(t, r, tenant, gen)
			sample.Is(t, "Drop", r.Drop(tenant, gen), api.ErrNone)
		}
	}
}

func TestAdd(t *testing.T) {
	for _, size := range keySizes() {
		r := ring(t, three()...)
		key := sized(9, size)
		if size == 16 || size == 32 {
			sample.Is(t, "Add", r.Add(7, 6, key), api.OK)
			has(t, r, 7, 6, key)
			gens(t, r, 7, 0, 5, 6, 65535)
			// A key that is there is told ahead of nothing but its length.
			sample.Is(t, "Add again", r.Add(7, 6, key), api.ErrTwice)
			sample.Is(t, "Add of another key", r.Add(7, 6, sample.Mingled(10, size)), api.ErrTwice)
			sample.Is(t, "Add of a key of another length", r.Add(7, 6, sample.Mingled(10, 48-size)), api.ErrTwice)
			sample.Is(t, "Add to another tenant", r.Add(8, 6, sample.Mingled(11, size)), api.OK)
			sample.Is(t, "Add of another generation", r.Add(7, 7, key), api.OK)
			has(t, r, 7, 6, key)
			has(t, r, 8, 6, sample.Mingled(11, size))
			has(t, r, 7, 7, key)
			lacks(t, r, 8, 7)
			continue
		}
		sample.Is(t, fmt.Sprint("Add of a key of the length ", size), r.Add(7, 6, key), api.ErrArg)
		sample.Is(t, fmt.Sprint("Add, where one is, of a key of the length ", size), r.Add(7, 5, key), api.ErrArg)
		lacks(t, r, 7, 6)
		gens(t, r, 7, 0, 5, 65535)
		for _, h := range three() {
			has(t, r, h.tenant, h.gen, h.key)
		}
	}
}

func TestTenantsAreApart(t *testing.T) {
	r := ring(t, three()...)
	gens(t, r, 0, 0)
	gens(t, r, 7, 0, 5, 65535)
	gens(t, r, math.MaxUint32, 65535)
	newest(t, r, 0, 0)
	newest(t, r, 7, 65535)
	newest(t, r, math.MaxUint32, 65535)
	for _, h := range three() {
		has(t, r, h.tenant, h.gen, h.key)
	}
	for _, tenant := range []uint32{1, 5, 6, 8, 7 << 8, 7 << 16, 7<<16 | 7, math.MaxUint32 - 1, 65535} {
		unknown(t, r, tenant)
		for _, gen := range []uint16{0, 5, 7, 65535} {
			lacks(t, r, tenant, gen)
			sample.Is(t, "Drop", r.Drop(tenant, gen), api.ErrNone)
		}
	}
	sample.Is(t, "Drop", r.Drop(7, 5), api.OK)
	gens(t, r, 7, 0, 65535)
	gens(t, r, 0, 0)
	lacks(t, r, 7, 5)
	sample.Is(t, "Drop", r.Drop(7, 65535), api.OK)
	newest(t, r, 7, 0)
	newest(t, r, math.MaxUint32, 65535)
	sample.Is(t, "Drop", r.Drop(7, 0), api.OK)
	unknown(t, r, 7)
	newest(t, r, 0, 0)
}

// Numbers that have their low bytes, or their high ones, in common are others.
func TestPlacesAreApart(t *testing.T) {
	r := ring(t)
	var list []held
	for _, tenant := range []uint32{7, 1<<8 | 7, 1<<16 | 7, 1<<24 | 7, 1<<31 | 7, 7 << 8, 7 << 16} {
		for _, gen := range []uint16{5, 1<<8 | 5, 1<<15 | 5, 5 << 8} {
			h := held{tenant, gen, sample.Mingled(tenant^uint32(gen)*31, 16)}
			sample.Is(t, fmt.Sprintf("Add(%d, %d)", tenant, gen), r.Add(tenant, gen, h.key), api.OK)
			list = append(list, h)
		}
	}
	for _, h := range list {
		gens(t, r, h.tenant, 5, 1<<8|5, 5<<8, 1<<15|5)
		has(t, r, h.tenant, h.gen, h.key)
	}
	for _, h := range list {
		sample.Is(t, fmt.Sprintf("Drop(%d, %d)", h.tenant, h.gen), r.Drop(h.tenant, h.gen), api.OK)
		lacks(t, r, h.tenant, h.gen)
	}
}

func TestDroppedAndAddedAgain(t *testing.T) {
	r := ring(t, three()...)
	sample.Is(t, "Drop", r.Drop(7, 5), api.OK)
	sample.Is(t, "Drop again", r.Drop(7, 5), api.ErrNone)
	sample.Is(t, "Add again", r.Add(7, 5, sample.Mingled(20, 32)), api.OK)
	has(t, r, 7, 5, sample.Mingled(20, 32))
	sample.Is(t, "Add twice", r.Add(7, 5, sample.Mingled(2, 16)), api.ErrTwice)
	gens(t, r, 7, 0, 5, 65535)
	for _, gen := range []uint16{65535, 0, 5} {
		sample.Is(t, "Drop", r.Drop(7, gen), api.OK)
	}
	unknown(t, r, 7)
	sample.Is(t, "Add behind all", r.Add(7, 3, sample.Mingled(21, 16)), api.OK)
	gens(t, r, 7, 3)
	newest(t, r, 7, 3)
	lacks(t, r, 7, 5)
}

func TestGensRise(t *testing.T) {
	r := ring(t)
	var want []uint16
	for k := range 300 {
		gen := uint16(k * 40503) // odd: no generation comes twice
		sample.Is(t, "Add", r.Add(7, gen, sample.Mingled(uint32(k), 16)), api.OK)
		sample.Is(t, "Add to another one", r.Add(8, gen+1, sample.Mingled(uint32(k), 32)), api.OK)
		want = append(want, gen)
		slices.Sort(want)
		gens(t, r, 7, want...)
		newest(t, r, 7, want[len(want)-1])
	}
	for k := range 300 {
		gen := uint16(k * 40503)
		has(t, r, 7, gen, sample.Mingled(uint32(k), 16))
		sample.Is(t, "Drop", r.Drop(7, gen), api.OK)
		want = slices.DeleteFunc(want, func(g uint16) bool { return g == gen })
		gens(t, r, 7, want...)
	}
	unknown(t, r, 7)
	if n := len(r.Gens(8)); n != 300 {
		t.Errorf("the other one has %d generations; want 300", n)
	}
}

// P10.4 (logs)

// notes is what the log's Seal answers, which has to be what Seal does.
func notes(t *testing.T, g *seal.Log, key []byte, l api.Label, payload []byte) []byte {
	t.Helper()
	b, e := g.Seal(key, l, payload)
	if want := page(t, key, l, payload); !bytes.Equal(b, want) || e != api.OK {
		t.Fatalf("a log's Seal for %v: %x, %v; want %x, OK", l, b, e, want)
	}
	return b
}

// twice holds it what Twice tells.
func twice(t *testing.T, g *seal.Log, want ...api.Label) {
	t.Helper()
	if list := g.Twice(); !slices.Equal(list, want) {
		t.Errorf("Twice: %v; want %v", list, want)
	}
}

// count holds it how many there are.
func count(t *testing.T, g *seal.Log, want int) {
	t.Helper()
	if n := g.Count(); n != want {
		t.Errorf("Count: %d; want %d", n, want)
	}
}

// knows holds it whether the log has the block, and whether it knows it for l.
func knows(t *testing.T, what string, g *seal.Log, l api.Label, block []byte, has, knows bool) {
	t.Helper()
	if g.Has(block) != has || g.Knows(l, block) != knows {
		t.Errorf("%s: Has: %v, Knows: %v; want %v, %v", what, g.Has(block), g.Knows(l, block), has, knows)
	}
}

func TestANewLog(t *testing.T) {
	g := seal.NewLog()
	if g == nil {
		t.Fatal("NewLog answers none")
	}
	count(t, g, 0)
	twice(t, g)
	for _, b := range [][]byte{nil, {}, make([]byte, 256), page(t, sample.Mingled(1, 16), example(), sample.Mingled(2, 224))} {
		knows(t, "a new log", g, example(), b, false, false)
		knows(t, "a new log", g, api.Label{}, b, false, false)
	}
}

func TestALogKnowsWhatWasSealedThroughIt(t *testing.T) {
	key, p := sample.Mingled(1, 16), sample.Mingled(2, 224)
	g, h := seal.NewLog(), seal.NewLog()
	b := notes(t, g, key, example(), p)
	knows(t, "this log", g, example(), b, true, true)
	knows(t, "this log, a copy", g, example(), bytes.Clone(b), true, true)
	knows(t, "another log", h, example(), b, false, false)
	count(t, g, 1)
	count(t, h, 0)
	for what, m := range turned(example()) {
		knows(t, what, g, m, b, true, false)
		knows(t, what+", sealed past the log", g, m, page(t, key, m, p), false, false)
	}
	none := example()
	none.Kind = 0
	knows(t, "a label that may not be", g, none, b, true, false)
	knows(t, "no label", g, api.Label{}, b, true, false)
	other := page(t, sample.Mingled(3, 16), example(), p)
	knows(t, "another key", g, example(), other, false, false)
	other = page(t, key, example(), sample.Mingled(3, 224))
	knows(t, "another payload", g, example(), other, false, false)
	for i := range b {
		c := bytes.Clone(b)
		c[i] ^= 1
		knows(t, fmt.Sprintf("the byte %d changed", i), g, example(), c, false, false)
	}
	for _, c := range [][]byte{nil, {}, b[:16], b[:255], b[1:], append(bytes.Clone(b), 0), make([]byte, 256)} {
		knows(t, fmt.Sprintf("%d bytes", len(c)), g, example(), c, false, false)
	}

	past := page(t, key, label(5, 8, 9), p)
	knows(t, "sealed past the log", g, label(5, 8, 9), past, false, false)
	// What would be sealed to the same block is that block, from whomever it comes.
	knows(t, "the same, sealed past the log", g, example(), page(t, key, example(), p), true, true)
	notes(t, h, key, label(5, 8, 9), p)
	knows(t, "sealed through the other one", g, label(5, 8, 9), past, false, false)
	knows(t, "sealed through the other one", h, label(5, 8, 9), past, true, true)
	knows(t, "another label of its own", h, example(), past, true, false)
}

func TestALogKnowsAllThatWasSealed(t *testing.T) {
	g := seal.NewLog()
	var blocks [][]byte
	list := labels()
	for i, l := range list {
		blocks = append(blocks, notes(t, g, sample.Mingled(uint32(i), 16+i%2*16), l, sample.Mingled(uint32(i), 224)))
		count(t, g, i+1)
	}
	for i, b := range blocks {
		for j, l := range list {
			knows(t, fmt.Sprint("the block ", i, " for the label ", j), g, l, b, true, i == j)
		}
	}
}

func TestWhatIsRefusedIsNotKnownOf(t *testing.T) {
	key, p := sample.Mingled(1, 16), sample.Mingled(2, 224)
	none := example()
	none.Kind = 5
	wrong := []struct {
		key     []byte
		l       api.Label
		payload []byte
	}{{nil, example(), p}, {key[:15], example(), p}, {sample.Mingled(1, 17), example(), p}, {sample.Mingled(1, 24), example(), p}, {sample.Mingled(1, 31), example(), p}, {sample.Mingled(1, 33), example(), p}, {key, none, p}, {key, api.Label{}, p}, {key, example(), nil}, {key, example(), p[:223]}, {key, example(), sample.Mingled(2, 225)}}
	g := seal.NewLog()
	for round := range 2 {
		for k, w := range wrong {
			if b, e := g.Seal(w.key, w.l, w.payload); len(b) != 0 || e != api.ErrArg {
				t.Errorf("%d: a log's Seal: %d bytes, %v; want none, ErrArg", k, len(b), e)
			}
			count(t, g, round)
			twice(t, g)
			knows(t, "no block", g, w.l, nil, false, false)
		}
		if round == 0 {
			notes(t, g, key, example(), p)
		}
	}
}

// The same key, label and payload are the same thing.
func TestTheSameAgainIsNotTwice(t *testing.T) {
	key, p := sample.Mingled(1, 16), sample.Mingled(2, 224)
	g := seal.NewLog()
	for k := range 4 {
		b := notes(t, g, key, example(), p)
		count(t, g, k+1)
		twice(t, g)
		knows(t, "the same", g, example(), b, true, true)
	}
	notes(t, g, key, label(5, 8, 9), p)
	notes(t, g, key, label(5, 7, 10), p)
	notes(t, g, key, example(), p)
	notes(t, g, key, label(5, 8, 9), p)
	twice(t, g)
	count(t, g, 8)
}

func TestSomethingElseIsTwice(t *testing.T) {
	long := sample.Mingled(1, 32)
	key, p := long[:16], sample.Mingled(2, 224)
	// One bit of the payload, wherever it is, makes it another one.
	for i := range p {
		q := bytes.Clone(p)
		q[i] ^= 1
		g := seal.NewLog()
		notes(t, g, key, example(), p)
		notes(t, g, key, example(), q)
		twice(t, g, example())
	}
	for _, other := range [][]byte{long, long[16:], sample.Mingled(9, 16), append(key[:15:15], key[15]^1)} {
		g := seal.NewLog()
		notes(t, g, key, example(), p)
		notes(t, g, other, example(), p)
		twice(t, g, example())
		count(t, g, 2)
	}
	for what, m := range turned(example()) {
		g := seal.NewLog()
		notes(t, g, key, example(), p)
		notes(t, g, key, m, p)
		if m.Ref.Page == example().Ref.Page && m.Ref.Commit == example().Ref.Commit {
			twice(t, g, m)
		} else {
			twice(t, g)
		}
		if t.Failed() {
			t.Fatalf("the label's %s", what)
		}
	}
}

// maker is what makes the tags of pages that are sealed for l under key: the block of noughts, and the first counter block, enciphered.
func maker(t *testing.T, key []byte, l api.Label) (h, mask [16]byte) {
	t.Helper()
	c, e := aes.New(key)
	sample.Is(t, "aes.New", e, api.OK)
	first, e := ctr.First(seal.NonceOf(l))
	sample.Is(t, "ctr.First", e, api.OK)
	h, _ = c.Encrypt([16]byte{})
	mask, _ = c.Encrypt(first)
	return h, mask
}

// added is a and b added bit by bit.
func added(a, b [16]byte) [16]byte {
	for i := range a {
		a[i] ^= b[i]
	}
	return a
}

// inverse is what makes 1 of a in the field of 2^128: a to the power 2^128 - 2.
func inverse(a [16]byte) [16]byte {
	x := [16]byte{0x80}
	for range 127 {
		a = ghash.Mul(a, a)
		x = ghash.Mul(x, a)
	}
	return x
}

// A twin is a payload that is sealed for a label under a key.
type twin struct {
	key     []byte
	l       api.Label
	payload []byte
}

// twins makes the payloads of a and b so that both are sealed to one block. Their heads are one; the last block of what is enciphered is chosen so that the tags are, too.
func twins(t *testing.T, a, b *twin) {
	t.Helper()
	h, mask := maker(t, a.key, a.l)
	k, other := maker(t, b.key, b.l)
	c := append(sample.Mingled(7, 208), make([]byte, 16)...)
	differ := added(added(ghash.Sum(h, seal.AadOf(a.l), c), mask), added(ghash.Sum(k, seal.AadOf(b.l), c), other))
	last := ghash.Mul(differ, inverse(added(ghash.Mul(h, h), ghash.Mul(k, k))))
	copy(c[208:], last[:])
	for _, w := range []*twin{a, b} {
		p, e := ctr.Crypt(w.key, seal.NonceOf(w.l), c)
		sample.Is(t, "ctr.Crypt", e, api.OK)
		w.payload = p
	}
}

func TestOneBlockSealedForMany(t *testing.T) {
	for what, m := range map[string]api.Label{"this label": example(), "another tenant": label(6, 7, 9), "another page": label(5, 8, 9)} {
		a, b := twin{key: sample.Mingled(1, 16), l: example()}, twin{key: sample.Mingled(2, 32), l: m}
		twins(t, &a, &b)
		g := seal.NewLog()
		block := notes(t, g, a.key, a.l, a.payload)
		knows(t, what, g, m, block, true, m == a.l)
		if !bytes.Equal(notes(t, g, b.key, b.l, b.payload), block) {
			t.Fatalf("%s: the twins are sealed to two blocks", what)
		}
		knows(t, what, g, a.l, block, true, true)
		knows(t, what, g, m, block, true, true)
		knows(t, what, g, label(6, 8, 9), block, true, false)
		count(t, g, 2)
		// It is one block, but another key's.
		if m.Ref.Page == a.l.Ref.Page {
			twice(t, g, m)
		} else {
			twice(t, g)
		}
	}
}

// Page and commit are the nonce, however their bytes stand: neither alone, nor their digits, nor one for the other.
func TestOtherNoncesAreNotTwice(t *testing.T) {
	key := sample.Mingled(1, 16)
	g := seal.NewLog()
	n := uint32(0)
	for _, page := range []uint32{0, 1, 7, 9, 1 << 8, 1 << 24, math.MaxUint32} {
		for _, commit := range []uint64{0, 1, 7, 9, 1 << 8, 1 << 32, 1 << 56, math.MaxUint64} {
			n++
			notes(t, g, key, label(5, page, commit), sample.Mingled(n, 224))
		}
	}
	twice(t, g)
	count(t, g, int(n))
}

func TestTwiceInOrder(t *testing.T) {
	key, p, q, u := sample.Mingled(1, 16), sample.Mingled(2, 224), sample.Mingled(3, 224), sample.Mingled(4, 224)
	a, b := label(5, 7, 9), label(5, 8, 9)
	other := a
	other.Tenant = 6
	g := seal.NewLog()
	notes(t, g, key, b, p)
	notes(t, g, key, a, p)
	twice(t, g)
	notes(t, g, key, a, q)
	twice(t, g, a)
	notes(t, g, key, b, p)
	twice(t, g, a)
	notes(t, g, key, other, p)
	twice(t, g, a, other)
	notes(t, g, key, b, u)
	twice(t, g, a, other, b)
	// What came first has something else ahead of it when it comes again.
	notes(t, g, key, a, p)
	twice(t, g, a, other, b, a)
	notes(t, g, key, a, u)
	twice(t, g, a, other, b, a, a)
	notes(t, g, sample.Mingled(9, 32), b, u)
	twice(t, g, a, other, b, a, a, b)
	notes(t, g, key, label(5, 7, 10), u)
	twice(t, g, a, other, b, a, a, b)
	count(t, g, 10)
	twice(t, g, a, other, b, a, a, b)
}
