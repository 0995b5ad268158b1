package disk_test

import (
	"bytes"
	"fmt"
	"math"
	"testing"

	"donjon/api"
	"donjon/disk"
	"donjon/sample"
)

// A device that is not there

func TestADeviceThatIsNotThere(t *testing.T) {
	var d *disk.Disk
	for _, i := range []int{math.MinInt, -1, 0, 8, math.MaxInt} {
		if b, e := d.Read(i); len(b) != 0 || e != api.ErrNil {
			t.Errorf("Read(%d) of none: %d bytes, %v", i, len(b), e)
		}
		if b, e := d.Firm(i); len(b) != 0 || e != api.ErrNil {
			t.Errorf("Firm(%d) of none: %d bytes, %v", i, len(b), e)
		}
		for _, b := range [][]byte{nil, {1}, full(1), make([]byte, 257)} {
			sample.Is(t, "Write of none", d.Write(i, b), api.ErrNil)
			sample.Is(t, "Foreign of none", d.Foreign(i, 0, b), api.ErrNil)
			sample.Is(t, "Foreign of none", d.Foreign(i, i, b), api.ErrNil)
		}
		d.Fail(i)
		d.Cut(i)
	}
	sample.Is(t, "Sync of none", d.Sync(), api.ErrNil)
	sample.Is(t, "Step of none", d.Step(), api.ErrNil)
	sample.Is(t, "Crash of none", d.Crash(nil), api.ErrNil)
	sample.Is(t, "Crash of none", d.Crash([]uint8{15}), api.ErrNil)
	if d.Blocks() != 0 || d.Steps() != 0 || d.Waiting() != 0 || d.Down() {
		t.Errorf("none has %d blocks, %d steps, %d writes that wait, the power off: %v", d.Blocks(), d.Steps(), d.Waiting(), d.Down())
	}
	if d.Fork() != nil {
		t.Error("none has a Fork")
	}
}

// R3, R4 (memory, lists)

func TestWhatIsHandedInStays(t *testing.T) {
	room := sample.Mingled(1, 400)
	was := bytes.Clone(room)
	d := fresh(t, 8)
	sample.Is(t, "Write", d.Write(0, room[9:265]), api.OK)
	sample.Is(t, "Write of too few", d.Write(0, room[9:260]), api.ErrArg)
	sample.Is(t, "Foreign", d.Foreign(0, 3, room[20:40]), api.OK)
	sample.Is(t, "Foreign of none", d.Foreign(0, 3, room[20:20]), api.OK)
	sample.Is(t, "Foreign of too many", d.Foreign(0, 3, room), api.ErrArg)
	sample.Is(t, "Crash", d.Crash(room[5:6]), api.OK)
	sample.Is(t, "Write", d.Write(0, room[9:265]), api.OK)
	sample.Is(t, "Crash", d.Crash(room), api.OK)
	d.Fail(1)
	sample.Is(t, "Write that fails", d.Write(0, room[9:265]), api.ErrIO)
	d.Cut(0)
	sample.Is(t, "Write at which the power goes", d.Write(0, room[9:265]), api.ErrDown)
	if !bytes.Equal(room, was) {
		t.Error("what was handed in has changed")
	}
}

func TestWhatIsHandedInIsNotKept(t *testing.T) {
	a, b, masks := sample.Mingled(1, 256), sample.Mingled(2, 100), []uint8{3, 12}
	d := fresh(t, 8)
	sample.Is(t, "Write", d.Write(0, a), api.OK)
	sample.Is(t, "Foreign", d.Foreign(1, 7, b), api.OK)
	was := inside(d)
	sample.Wreck(a)
	sample.Wreck(b)
	if got := inside(d); got != was {
		t.Errorf("the device has kept what was handed in:\n%s\nwant\n%s", got, was)
	}
	sample.Is(t, "Crash", d.Crash(masks), api.OK)
	was = inside(d)
	sample.Wreck(masks)
	if got := inside(d); got != was {
		t.Errorf("the device has kept the masks of a Crash:\n%s\nwant\n%s", got, was)
	}
	tells(t, d, 0, laid(full(0), 0, string(sample.Mingled(1, 128))))
	tells(t, d, 1, laid(full(0), 7, string(sample.Mingled(2, 100))))
}

func TestAnswersAreNewMemory(t *testing.T) {
	for _, of := range []func(t *testing.T) *disk.Disk{busy, ready} {
		d := of(t)
		f := d.Fork()
		was := inside(d)
		for i := range 8 {
			now, _ := d.Read(i)
			again, _ := d.Read(i)
			firm, _ := d.Firm(i)
			anew, _ := d.Firm(i)
			other, _ := f.Read(i)
			list := [][]byte{now, again, firm, anew, other}
			for k, b := range list {
				kept := make([][]byte, len(list))
				for j := range list {
					kept[j] = bytes.Clone(list[j])
				}
				sample.Wreck(b)
				for j := range list {
					if j != k && !bytes.Equal(list[j], kept[j]) {
						t.Errorf("the answers %d and %d of the block %d share memory", k, j, i)
					}
				}
			}
		}
		if inside(d) != was || inside(f) != was {
			t.Error("an answer shares memory with a device")
		}
	}
}

func TestNilAndEmptyAreOne(t *testing.T) {
	room := sample.Mingled(1, 9)
	for _, none := range [][]byte{nil, {}, room[:0], room[9:]} {
		d := busy(t)
		stays(t, "Write of none", d, api.ErrArg, func() api.Errno { return d.Write(0, none) })
		stays(t, "Foreign of none", d, api.OK, func() api.Errno { return d.Foreign(0, 0, none) })
		stays(t, "Foreign of none", d, api.OK, func() api.Errno { return d.Foreign(7, 256, none) })
		sample.Is(t, "Crash(none)", d.Crash(none), api.OK)
		tells(t, d, 1, full('f'))
		tells(t, d, 0, full(0))
	}
}

// A model does as the chapter's words say, byte by byte.
type model struct {
	now, firm []byte
	waiting   []wait
	down      bool
	steps     uint64

	fails, failed int // Fail's number, and how many have counted since
	cuts, asked   int // Cut's number, and how many have been asked since
}

type wait struct {
	i int
	b string
}

func newModel(blocks int) *model {
	return &model{now: make([]byte, blocks*256), firm: make([]byte, blocks*256), cuts: -1}
}

func (m *model) blocks() int { return len(m.now) / 256 }

func (m *model) step() api.Errno {
	if m.down {
		return api.ErrDown
	}
	if m.cuts >= 0 && m.asked >= m.cuts {
		m.down = true
		return api.ErrDown
	}
	m.asked++
	m.steps++
	m.failed++
	if m.failed == m.fails {
		return api.ErrIO
	}
	return api.OK
}

func (m *model) write(i int, b []byte) api.Errno {
	if i < 0 || i >= m.blocks() || len(b) != 256 {
		return api.ErrArg
	}
	e := m.step()
	if e == api.OK {
		copy(m.now[256*i:], b)
		m.waiting = append(m.waiting, wait{i, string(b)})
	}
	return e
}

func (m *model) sync() api.Errno {
	e := m.step()
	if e == api.OK {
		copy(m.firm, m.now)
		m.waiting = nil
	}
	return e
}

func (m *model) crash(masks []uint8) {
	for k, w := range m.waiting {
		for x := range 256 {
			if k < len(masks) && masks[k]>>(x/64)%2 == 1 {
				m.firm[256*w.i+x] = w.b[x]
			}
		}
	}
	copy(m.now, m.firm)
	*m = model{now: m.now, firm: m.firm, cuts: -1, steps: m.steps}
}

func (m *model) foreign(i, at int, b []byte) api.Errno {
	if i < 0 || i >= m.blocks() || at < 0 || at+len(b) > 256 {
		return api.ErrArg
	}
	copy(m.now[256*i+at:], b)
	copy(m.firm[256*i+at:], b)
	return api.OK
}

func (m *model) fork() *model {
	f := *m
	f.now, f.firm = bytes.Clone(m.now), bytes.Clone(m.firm)
	f.waiting = append([]wait{}, m.waiting...)
	return &f
}

// like holds it that the device tells what the model does.
func (m *model) like(t *testing.T, what string, d *disk.Disk) {
	t.Helper()
	if d.Blocks() != m.blocks() || d.Steps() != m.steps || d.Waiting() != len(m.waiting) || d.Down() != m.down {
		t.Fatalf("%s: %d blocks, %d steps, %d wait, off: %v; want %d, %d, %d, %v", what, d.Blocks(), d.Steps(), d.Waiting(), d.Down(), m.blocks(), m.steps, len(m.waiting), m.down)
	}
	for i := range m.blocks() {
		if b, e := d.Firm(i); !bytes.Equal(b, m.firm[256*i:256*i+256]) || e != api.OK {
			t.Fatalf("%s: Firm(%d):%s, %v; want%s", what, i, brief(b), e, brief(m.firm[256*i:256*i+256]))
		}
		want, wantE := m.now[256*i:256*i+256], api.OK
		if m.down {
			want, wantE = nil, api.ErrDown
		}
		if b, e := d.Read(i); !bytes.Equal(b, want) || e != wantE {
			t.Fatalf("%s: Read(%d):%s, %v; want%s, %v", what, i, brief(b), e, brief(want), wantE)
		}
	}
}

// A pair is a device and its model.
type pair struct {
	d *disk.Disk
	m *model
}

// does asks both for something that x tells, and what they answer.
func (p pair) does(x []byte) (what string, got, want api.Errno) {
	i, n := int(x[1]%12)-2, int(x[2]%10)-2
	b := sample.Mingled(uint32(x[3]), 256)
	if x[3]%16 == 0 {
		b = b[:x[4]]
	}
	switch x[0] % 16 {
	case 0, 1, 2, 3, 4, 5:
		return fmt.Sprintf("Write(%d, %d bytes)", i, len(b)), p.d.Write(i, b), p.m.write(i, b)
	case 6, 7:
		return "Sync", p.d.Sync(), p.m.sync()
	case 8:
		return "Step", p.d.Step(), p.m.step()
	case 9:
		p.d.Fail(n)
		p.m.fails, p.m.failed = n, 0
		return fmt.Sprintf("Fail(%d)", n), api.OK, api.OK
	case 10:
		p.d.Cut(n)
		p.m.cuts, p.m.asked = n, 0
		return fmt.Sprintf("Cut(%d)", n), api.OK, api.OK
	case 11, 12:
		masks := x[5 : 5+x[1]%8]
		p.m.crash(masks)
		return fmt.Sprintf("Crash(%v)", masks), p.d.Crash(masks), api.OK
	}
	b = b[:int(x[4])%(len(b)+1)]
	at := int(x[5]%64)*5 - 8
	return fmt.Sprintf("Foreign(%d, %d, %d bytes)", i, at, len(b)), p.d.Foreign(i, at, b), p.m.foreign(i, at, b)
}

func TestAllAsTheWordsSay(t *testing.T) {
	for start := range uint32(60) {
		list := []pair{{fresh(t, 8), newModel(8)}}
		told := sample.Mingled(start*7919, 13*250)
		for k := range 250 {
			x := told[13*k:][:13]
			p := list[int(x[12])%len(list)]
			what, got, want := p.does(x)
			if got != want {
				t.Fatalf("%d, %d: %s: %v; want %v", start, k, what, got, want)
			}
			if x[11] > 240 && len(list) < 4 {
				list = append(list, pair{p.d.Fork(), p.m.fork()})
			}
			for _, p := range list {
				p.m.like(t, fmt.Sprintf("%d, %d: behind %s", start, k, what), p.d)
			}
		}
	}
}
