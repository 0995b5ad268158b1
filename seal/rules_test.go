package seal_test

import (
	"bytes"
	"fmt"
	"math"
	"slices"
	"testing"

	"donjon/api"
	"donjon/sample"
	"donjon/seal"
)

// Rings and logs that are not there, and zero ones

func TestARingThatIsNotThere(t *testing.T) {
	var r *seal.Ring
	for _, tenant := range []uint32{0, 1, math.MaxUint32} {
		for _, gen := range []uint16{0, 1, 65535} {
			for _, size := range keySizes() {
				sample.Is(t, "Add to none", r.Add(tenant, gen, sized(1, size)), api.ErrNil)
			}
			if key, e := r.Key(tenant, gen); len(key) != 0 || e != api.ErrNil {
				t.Errorf("Key of none: %x, %v; want none, ErrNil", key, e)
			}
			sample.Is(t, "Drop of none", r.Drop(tenant, gen), api.ErrNil)
		}
		if gen, e := r.Newest(tenant); gen != 0 || e != api.ErrNil {
			t.Errorf("Newest of none: %d, %v; want 0, ErrNil", gen, e)
		}
		gens(t, r, tenant)
	}
}

func TestALogThatIsNotThere(t *testing.T) {
	var g *seal.Log
	b := page(t, sample.Mingled(1, 16), example(), sample.Mingled(2, 224))
	for _, size := range keySizes() {
		for _, n := range []int{-1, 223, 224} {
			for _, l := range []api.Label{{}, example()} {
				if b, e := g.Seal(sized(1, size), l, sized(2, n)); len(b) != 0 || e != api.ErrNil {
					t.Errorf("Seal of none: %d bytes, %v; want none, ErrNil", len(b), e)
				}
			}
		}
	}
	for _, b := range [][]byte{nil, {}, b[:255], b} {
		knows(t, "none", g, example(), b, false, false)
		knows(t, "none", g, api.Label{}, b, false, false)
	}
	count(t, g, 0)
	twice(t, g)
}

// The chapter says nothing of these: they are taken for new ones.
func TestAZeroRingAndAZeroLog(t *testing.T) {
	var r seal.Ring
	unknown(t, &r, 1)
	lacks(t, &r, 1, 0)
	sample.Is(t, "Drop", r.Drop(1, 0), api.ErrNone)
	sample.Is(t, "Add", r.Add(1, 3, sample.Mingled(1, 16)), api.OK)
	has(t, &r, 1, 3, sample.Mingled(1, 16))
	newest(t, &r, 1, 3)

	var g seal.Log
	count(t, &g, 0)
	twice(t, &g)
	knows(t, "a zero log", &g, example(), nil, false, false)
	b := notes(t, &g, sample.Mingled(1, 16), example(), sample.Mingled(2, 224))
	knows(t, "a zero log", &g, example(), b, true, true)
	count(t, &g, 1)
}

// R3 (memory)

func TestWhatIsHandedInStays(t *testing.T) {
	room := sample.Mingled(1, 1000)
	b := page(t, room[8:24], example(), room[100:324])
	copy(room[400:], b)
	copy(room[700:], b)
	room[700+17] ^= 1
	was := bytes.Clone(room)
	r, g := seal.NewRing(), seal.NewLog()
	for _, key := range [][]byte{room[8:24], room[8:40], room[8:23], room[8:8], nil} {
		for _, p := range [][]byte{room[100:324], room[100:323], room[100:100]} {
			for _, l := range []api.Label{example(), {}} {
				one, _ := seal.Seal(key, l, p)
				sample.Wreck(one)
				two, _ := g.Seal(key, l, p)
				sample.Wreck(two)
			}
		}
		for _, block := range [][]byte{room[400:656], room[700:956], room[401:657], room[400:655], room[400:400]} {
			p, _ := seal.Open(key, example(), block)
			sample.Wreck(p)
			seal.Told(block)
			g.Has(block)
			g.Knows(example(), block)
		}
		r.Add(1, uint16(len(key)), key)
		again, _ := r.Key(1, uint16(len(key)))
		sample.Wreck(again)
	}
	gens(t, r, 1, 16, 32)
	if !bytes.Equal(room, was) {
		t.Error("what was handed in has changed")
	}
	has(t, r, 1, 16, was[8:24])
	has(t, r, 1, 32, was[8:40])
}

func TestKeysAreNotKept(t *testing.T) {
	r := seal.NewRing()
	room := sample.Mingled(1, 60)
	for k, size := range []int{16, 32} {
		key := room[: size : size+9]
		was := bytes.Clone(key)
		sample.Is(t, "Add", r.Add(1, uint16(k), key), api.OK)
		sample.Wreck(key)
		has(t, r, 1, uint16(k), was)
		sample.Is(t, "Add again", r.Add(1, uint16(k), key), api.ErrTwice)
		one, _ := r.Key(1, uint16(k))
		two, _ := r.Key(1, uint16(k))
		sample.Wreck(one)
		if !bytes.Equal(two, was) {
			t.Error("two answers of Key share memory")
		}
		has(t, r, 1, uint16(k), was)
		sample.Wreck(two)
		has(t, r, 1, uint16(k), was)
		sample.Wreck(append(two, sample.Mingled(3, 9)...))
	}
}

func TestOneKeyAtManyPlaces(t *testing.T) {
	key := sample.Mingled(1, 16)
	r := seal.NewRing()
	for gen := range uint16(5) {
		sample.Is(t, "Add", r.Add(1, gen, key), api.OK)
	}
	for gen := range uint16(5) {
		k, _ := r.Key(1, gen)
		sample.Wreck(k)
	}
	for gen := range uint16(5) {
		has(t, r, 1, gen, sample.Mingled(1, 16))
	}
}

func TestGensAreNewMemory(t *testing.T) {
	r := ring(t, three()...)
	one, two := r.Gens(7), r.Gens(7)
	one = one[:cap(one)]
	for i := range one {
		one[i] = 77
	}
	if !slices.Equal(two, []uint16{0, 5, 65535}) {
		t.Errorf("two answers of Gens share memory: %v", two)
	}
	gens(t, r, 7, 0, 5, 65535)
	newest(t, r, 7, 65535)
}

func TestALogKeepsNothingThatIsHandedIn(t *testing.T) {
	key, p := sample.Mingled(1, 16), sample.Mingled(2, 224)
	g := seal.NewLog()
	b := notes(t, g, key, example(), p)
	was := bytes.Clone(b)
	sample.Wreck(b)
	knows(t, "what was answered, written over", g, example(), b, false, false)
	knows(t, "what was answered", g, example(), was, true, true)
	sample.Wreck(key)
	sample.Wreck(p)
	twice(t, g)
	// The log must not take these for the first ones, though they stand where those stood.
	notes(t, g, key, example(), p)
	twice(t, g, example())
	notes(t, g, sample.Mingled(1, 16), example(), sample.Mingled(2, 224))
	twice(t, g, example(), example())
	knows(t, "what was answered", g, example(), was, true, true)
	count(t, g, 3)
}

func TestTwiceIsNewMemory(t *testing.T) {
	g := seal.NewLog()
	for k := range uint32(4) {
		notes(t, g, sample.Mingled(1, 16), example(), sample.Mingled(k, 224))
	}
	one, two := g.Twice(), g.Twice()
	one = one[:cap(one)]
	for i := range one {
		one[i] = api.Label{Tenant: 77}
	}
	if l := example(); !slices.Equal(two, []api.Label{l, l, l}) {
		t.Errorf("two answers of Twice share memory: %v", two)
	}
	twice(t, g, example(), example(), example())
}

func TestPagesAreNewMemory(t *testing.T) {
	key, p, l := sample.Mingled(1, 16), sample.Mingled(2, 224), example()
	g := seal.NewLog()
	block := page(t, key, l, p)
	of := func() [][]byte {
		one, _ := seal.Seal(key, l, p)
		two, _ := g.Seal(key, l, p)
		three, _ := seal.Open(key, l, block)
		return [][]byte{one, two, three, seal.HeadOf(l), seal.NonceOf(l), seal.AadOf(l)}
	}
	answers, again := of(), of()
	for _, b := range answers {
		sample.Wreck(b)
	}
	for k, b := range of() {
		if !bytes.Equal(b, again[k]) {
			t.Errorf("the answer %d shares memory", k)
		}
	}
	if !bytes.Equal(key, sample.Mingled(1, 16)) || !bytes.Equal(p, sample.Mingled(2, 224)) || !bytes.Equal(block, again[0]) {
		t.Error("an answer shares memory with what was handed in")
	}
}

// R4 (lists)

func TestNilAndEmptyAreOne(t *testing.T) {
	key, p := sample.Mingled(1, 16), sample.Mingled(2, 224)
	for _, none := range [][]byte{nil, {}, key[:0], key[16:]} {
		if b, e := seal.Seal(none, example(), p); len(b) != 0 || e != api.ErrArg {
			t.Errorf("Seal with no key: %d bytes, %v", len(b), e)
		}
		if b, e := seal.Seal(key, example(), none); len(b) != 0 || e != api.ErrArg {
			t.Errorf("Seal of no payload: %d bytes, %v", len(b), e)
		}
		shut(t, "no block", key, example(), none, api.ErrArg)
		shut(t, "no key", none, example(), make([]byte, 256), api.ErrArg)
		untold(t, "no block", none, api.ErrArg)
		r, g := ring(t, three()...), seal.NewLog()
		sample.Is(t, "Add of no key", r.Add(7, 5, none), api.ErrArg)
		knows(t, "no block", g, example(), none, false, false)
		notes(t, g, key, example(), p)
		knows(t, "no block", g, example(), none, false, false)
	}
}

// All as the words say, over many mixed calls

// places is held keys, by the chapter's words.
type places map[string]string

func at(tenant uint32, gen uint16) string { return fmt.Sprintf("%010d %05d", tenant, gen) }

func (m places) add(tenant uint32, gen uint16, key []byte) api.Errno {
	if len(key) != 16 && len(key) != 32 {
		return api.ErrArg
	}
	if m[at(tenant, gen)] != "" {
		return api.ErrTwice
	}
	m[at(tenant, gen)] = string(key)
	return api.OK
}

func (m places) drop(tenant uint32, gen uint16) api.Errno {
	if m[at(tenant, gen)] == "" {
		return api.ErrNone
	}
	delete(m, at(tenant, gen))
	return api.OK
}

// like holds it that the ring tells of the tenant what the model does.
func (m places) like(t *testing.T, what string, r *seal.Ring, tenant uint32) {
	t.Helper()
	var want []uint16
	for gen := range 12 {
		g := uint16(gen) * 5957 // up to 65527
		key, e := r.Key(tenant, g)
		if held := m[at(tenant, g)]; held != "" {
			want = append(want, g)
			if string(key) != held || e != api.OK {
				t.Fatalf("%s: Key(%d, %d): %x, %v; want %x", what, tenant, g, key, e, held)
			}
		} else if len(key) != 0 || e != api.ErrNone {
			t.Fatalf("%s: Key(%d, %d): %x, %v; want none, ErrNone", what, tenant, g, key, e)
		}
	}
	if list := r.Gens(tenant); !slices.Equal(list, want) {
		t.Fatalf("%s: Gens(%d): %v; want %v", what, tenant, list, want)
	}
	gen, e := r.Newest(tenant)
	if len(want) == 0 && (gen != 0 || e != api.ErrNone) || len(want) > 0 && (gen != want[len(want)-1] || e != api.OK) {
		t.Fatalf("%s: Newest(%d): %d, %v; of %v", what, tenant, gen, e, want)
	}
}

func TestRingsAsTheWordsSay(t *testing.T) {
	for start := range uint32(20) {
		rings := []*seal.Ring{seal.NewRing(), seal.NewRing()}
		models := []places{{}, {}}
		told := sample.Mingled(start*7919, 4*500)
		for k := range 500 {
			x := told[4*k:][:4]
			r, m := rings[x[0]%2], models[x[0]%2]
			tenant, gen := uint32(x[1]%5)*1000, uint16(x[2]%12)*5957
			what := fmt.Sprintf("%d, %d", start, k)
			if x[3]%2 == 0 {
				key := sample.Mingled(uint32(k), []int{16, 32, 16, 32, 16, 32, 15, 33}[x[3]/2%8])
				want := m.add(tenant, gen, key)
				sample.Is(t, what+": Add", r.Add(tenant, gen, key), want)
			} else {
				want := m.drop(tenant, gen)
				sample.Is(t, what+": Drop", r.Drop(tenant, gen), want)
			}
			for j := range 2 {
				for n := range uint32(6) {
					models[j].like(t, what, rings[j], n*1000)
				}
			}
		}
	}
}

// A sealing is what was sealed, and the block.
type sealing struct {
	key, payload, block string
	l                   api.Label
}

// history is what was sealed, in order; each question is answered by the chapter's words.
type history []sealing

func (h history) has(block []byte) bool {
	return slices.ContainsFunc(h, func(s sealing) bool { return s.block == string(block) })
}

func (h history) knows(l api.Label, block []byte) bool {
	return slices.ContainsFunc(h, func(s sealing) bool { return s.block == string(block) && s.l == l })
}

func (h history) twice() []api.Label {
	var list []api.Label
	for i, s := range h {
		if slices.ContainsFunc(h[:i], func(o sealing) bool {
			return o.l.Ref.Page == s.l.Ref.Page && o.l.Ref.Commit == s.l.Ref.Commit && (o.key != s.key || o.l != s.l || o.payload != s.payload)
		}) {
			list = append(list, s.l)
		}
	}
	return list
}

func TestLogsAsTheWordsSay(t *testing.T) {
	for start := range uint32(8) {
		logs := []*seal.Log{seal.NewLog(), seal.NewLog()}
		past := make([]history, 2)
		var blocks [][]byte
		var asked []api.Label
		told := sample.Mingled(start*7919, 8*60)
		for k := range 60 {
			x := told[8*k:][:8]
			key, p := sample.Mingled(uint32(x[1]%2), 16+int(x[1]/2%2)*16), sample.Mingled(uint32(x[2]%3), 224)
			l := api.Label{Tenant: uint32(x[3] % 2), Kind: x[4] % 6, Level: x[4] / 6 % 2, Ref: api.Ref{Page: uint32(x[5] % 3), Commit: uint64(x[6] % 4), Gen: uint16(x[7] % 2)}}
			n := x[0] % 2
			b, e := logs[n].Seal(key, l, p)
			want, f := seal.Seal(key, l, p)
			if !bytes.Equal(b, want) || e != f {
				t.Fatalf("%d, %d: a log's Seal: %x, %v; want %x, %v", start, k, b, e, want, f)
			}
			if e == api.OK {
				past[n] = append(past[n], sealing{string(key), string(p), string(b), l})
			}
			blocks, asked = append(blocks, b), append(asked, l)
			for j, g := range logs {
				what := fmt.Sprintf("%d, %d, the log %d", start, k, j)
				count(t, g, len(past[j]))
				twice(t, g, past[j].twice()...)
				for i, b := range blocks {
					m := asked[(i+k)%len(asked)]
					knows(t, what, g, m, b, past[j].has(b), past[j].knows(m, b))
					knows(t, what, g, asked[i], b, past[j].has(b), past[j].knows(asked[i], b))
				}
			}
			if t.Failed() {
				t.FailNow()
			}
		}
	}
}
