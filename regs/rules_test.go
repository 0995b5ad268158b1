package regs_test

import (
	"bytes"
	"fmt"
	"math"
	"slices"
	"testing"

	"donjon/api"
	"donjon/disk"
	"donjon/regs"
	"donjon/sample"
)

// Registers that are not there

func TestRegistersThatAreNotThere(t *testing.T) {
	var r *regs.Regs
	for range 2 {
		holds(t, "none", r, 0, 0, 0)
		keeps(t, "none", r, api.ErrNil)
		for _, n := range limits() {
			sample.Is(t, "Advance of none", r.Advance(n), api.ErrNil)
		}
		for _, size := range []int{math.MinInt, -1, 0, 1, 64, 65, math.MaxInt} {
			refuses(t, "none", r, size, api.ErrNil)
		}
	}
}

// R3, R4 (memory, lists)

func TestDrawsHandedInStay(t *testing.T) {
	room := sample.Mingled(1, 400)
	was := bytes.Clone(room)
	list := [][]byte{room[3:10], nil, room[20:90], {}, room[5:5], room[100:101], room[300:]}
	held := slices.Clone(list)
	r, _ := at(t, 9, 0, 0, list[:2]...)
	b, _ := r.Draw(7)
	sample.Wreck(b)
	refuses(t, "an empty one", r, 1, api.ErrDry)
	r, d := at(t, 9, 0, 0, list[2:3]...)
	gives(t, "Reserve", r, 1)
	sample.Is(t, "Advance", r.Advance(1), api.OK)
	b, _ = r.Draw(64)
	sample.Wreck(b)
	sample.Is(t, "Crash", d.Crash(nil), api.OK)
	r, _ = at(t, 9, 0, 0, list[5:]...)
	for _, size := range []int{65, 2, 1, 50} {
		b, _ = r.Draw(size)
		sample.Wreck(b)
	}
	if !bytes.Equal(room, was) {
		t.Error("the draws handed in have changed")
	}
	for i, b := range list {
		if len(b) != len(held[i]) || cap(b) != cap(held[i]) || (b == nil) != (held[i] == nil) || cap(b) > 0 && &b[:1][0] != &held[i][:1][0] {
			t.Errorf("the list of draws handed in has another one at %d", i)
		}
	}
}

func TestDrawsHandedInAreNotKept(t *testing.T) {
	want := lot(5, 64, 65, 1)
	list := lot(5, 64, 65, 1)
	r, _ := at(t, 9, 0, 0, list...)
	for _, b := range list {
		sample.Wreck(b)
	}
	drains(t, "draws written over", r, want...)

	list = lot(5, 64, 65, 1)
	r, _ = at(t, 9, 0, 0, list...)
	draws(t, "the first one", r, 5, want[0])
	for i := range list {
		sample.Wreck(list[i])
		list[i] = sample.Mingled(9, 70)
	}
	list = append(list[:1], sample.Mingled(8, 70), nil)
	drains(t, "a list written over", r, want[1:]...)
	if len(list) != 3 {
		t.Error("the list handed in has changed")
	}
}

func TestDrawsMayShareMemory(t *testing.T) {
	room := sample.Mingled(1, 100)
	was := bytes.Clone(room)
	list := [][]byte{room[0:40], room[20:60], room[0:40], room, room[99:], room[:1]}
	r, _ := at(t, 9, 0, 0, list...)
	for k, b := range [][]byte{was[0:40], was[20:60], was[0:40], was[:64], was[99:], was[:1]} {
		got, e := r.Draw(len(b))
		if !bytes.Equal(got, b) || e != api.OK {
			t.Errorf("the draw %d: %x, %v; want %x", k, got, e, b)
		}
		sample.Wreck(got)
		sample.Wreck(room)
	}
}

func TestAnswersAreNewMemory(t *testing.T) {
	same := sample.Mingled(1, 64)
	r, _ := at(t, 9, 0, 0, same, same, same[:9], sample.Mingled(2, 70), same)
	s := beside(t, fresh(t), 9, same)
	var answers, kept [][]byte
	for _, r := range []*regs.Regs{r, r, r, r, s} {
		b, e := r.Draw(9)
		sample.Is(t, "Draw", e, api.OK)
		answers = append(answers, b)
		kept = append(kept, bytes.Clone(b))
	}
	for k, b := range answers {
		sample.Wreck(b)
		for j := range answers {
			if j > k && !bytes.Equal(answers[j], kept[j]) {
				t.Errorf("the answers %d and %d share memory", k, j)
			}
		}
	}
	drains(t, "behind answers that were written over", r, same)
	if !bytes.Equal(same, sample.Mingled(1, 64)) {
		t.Error("an answer shares memory with a draw that was handed in")
	}
}

func TestNilAndEmptyAreOne(t *testing.T) {
	for _, list := range [][][]byte{nil, {}, lot(5)[:0], lot(5)[1:]} {
		r, e := regs.New(fresh(t), 9, list)
		sample.Is(t, "New with no draws", e, api.OK)
		holds(t, "no draws", r, 0, 0, 0)
		refuses(t, "no draws", r, 1, api.ErrDry)
		gives(t, "no draws", r, 1)
		sample.Is(t, "Advance with no draws", r.Advance(1), api.OK)
	}
}

// Registers beside one device, and beside others

func TestRegistersBesideOneDevice(t *testing.T) {
	d := fresh(t)
	list := lot(5, 6, 7)
	r, s := beside(t, d, 3, list...), beside(t, d, 100, list...)
	gives(t, "the first ones", r, 1)
	gives(t, "the first ones", r, 2)
	gives(t, "the second ones", s, 1)
	sample.Is(t, "Advance of the first ones", r.Advance(2), api.OK)
	sample.Is(t, "Advance of the second ones", s.Advance(2), api.ErrArg)
	draws(t, "the first ones", r, 5, list[0])
	holds(t, "the first ones", r, 2, 2, 2)
	holds(t, "the second ones", s, 1, 0, 3)
	if d.Steps() != 4 {
		t.Errorf("%d steps have counted; want 4", d.Steps())
	}

	d.Fail(3)
	gives(t, "the second ones", s, 2)
	gives(t, "the first ones", r, 3)
	sample.Is(t, "Advance at the step that fails", s.Advance(2), api.ErrIO)
	keeps(t, "the first ones at their limit", r, api.ErrSpent)
	gives(t, "the second ones", s, 3)
	if d.Steps() != 8 {
		t.Errorf("%d steps have counted; want 8", d.Steps())
	}

	d.Cut(1)
	sample.Is(t, "Advance of the first ones", r.Advance(3), api.OK)
	keeps(t, "the second ones, the power going", s, api.ErrDown)
	sample.Is(t, "the second ones, the power off", s.Advance(1), api.ErrDown)
	holds(t, "the first ones", r, 3, 3, 2)
	holds(t, "the second ones", s, 3, 0, 3)
	sample.Is(t, "Crash", d.Crash(nil), api.OK)
	gives(t, "the second ones", s, 4)
	drains(t, "the first ones", r, list[1:]...)
	drains(t, "the second ones", s, list...)
	if d.Steps() != 10 {
		t.Errorf("%d steps have counted; want 10", d.Steps())
	}
}

func TestRegistersKeepTheirDevice(t *testing.T) {
	r, d := at(t, 9, 1, 0)
	f := d.Fork()
	s := beside(t, f, 9)
	f.Fail(1)
	off(d)
	keeps(t, "beside the fork", s, api.ErrIO)
	keeps(t, "beside the device that was forked", r, api.ErrDown)
	gives(t, "beside the fork", s, 1)
	if d.Steps() != 1 || f.Steps() != 3 {
		t.Errorf("%d steps of the device, %d of its fork; want 1, 3", d.Steps(), f.Steps())
	}
	sample.Is(t, "Crash", d.Crash(nil), api.OK)
	gives(t, "beside the device that was forked", r, 2)
}

// A model does as the chapter's words say. Its twin is a device of which it asks each step that the registers' device should be asked.
type model struct {
	twin                       *disk.Disk
	limit, reserved, committed uint64
	draws                      []string
}

func (m *model) reserve() (uint64, api.Errno) {
	if m.reserved == m.limit {
		return 0, api.ErrSpent
	}
	if e := m.twin.Step(); e != api.OK {
		return 0, e
	}
	m.reserved++
	return m.reserved, api.OK
}

func (m *model) advance(n uint64) api.Errno {
	if !(m.committed < n && n <= m.reserved) {
		return api.ErrArg
	}
	e := m.twin.Step()
	if e == api.OK {
		m.committed = n
	}
	return e
}

func (m *model) draw(size int) (string, api.Errno) {
	if size < 1 || size > 64 {
		return "", api.ErrArg
	}
	if len(m.draws) == 0 || len(m.draws[0]) < size {
		return "", api.ErrDry
	}
	s := m.draws[0][:size]
	m.draws = m.draws[1:]
	return s, api.OK
}

// A pair is registers and their model.
type pair struct {
	r *regs.Regs
	m *model
}

// does asks both for something that x tells, and what they answer.
func (p pair) does(x []byte) (what, got, want string) {
	switch x[0] % 4 {
	case 0, 1:
		n, e := p.r.Reserve()
		m, f := p.m.reserve()
		return "Reserve", fmt.Sprint(n, e), fmt.Sprint(m, f)
	case 2:
		n := p.m.reserved - 3 + uint64(x[1]%5)
		return fmt.Sprintf("Advance(%d)", n), fmt.Sprint(p.r.Advance(n)), fmt.Sprint(p.m.advance(n))
	}
	size := int(x[1]%68) - 1
	b, e := p.r.Draw(size)
	s, f := p.m.draw(size)
	return fmt.Sprintf("Draw(%d)", size), fmt.Sprintf("%x %v", b, e), fmt.Sprintf("%x %v", s, f)
}

// bothers makes the two devices fail, or lose their power, or get it back, as x tells.
func bothers(x []byte, list ...*disk.Disk) string {
	n := int(x[1]%8) - 1
	for _, d := range list {
		switch x[0] % 8 {
		case 0:
			d.Fail(n)
		case 1:
			d.Cut(n)
		case 2, 3:
			d.Crash(x)
		}
	}
	return fmt.Sprintf("the bother %d of %d", x[0]%8, n)
}

// like holds it that the registers tell what the model does, and that their device was asked just the steps that the twin was.
func (p pair) like(t *testing.T, what string, d *disk.Disk) {
	t.Helper()
	m := p.m
	if p.r.Reserved() != m.reserved || p.r.Committed() != m.committed || p.r.Left() != len(m.draws) {
		t.Fatalf("%s: reserved %d, committed %d, %d draws left; want %d, %d, %d", what, p.r.Reserved(), p.r.Committed(), p.r.Left(), m.reserved, m.committed, len(m.draws))
	}
	if p.r.Committed() > p.r.Reserved() || p.r.Reserved() > m.limit {
		t.Fatalf("%s: committed %d, reserved %d, the limit %d", what, p.r.Committed(), p.r.Reserved(), m.limit)
	}
	if d.Steps() != m.twin.Steps() || d.Down() != m.twin.Down() || d.Waiting() != 0 {
		t.Fatalf("%s: %d steps, off: %v, %d wait; want %d, %v, 0", what, d.Steps(), d.Down(), d.Waiting(), m.twin.Steps(), m.twin.Down())
	}
}

// mixed is a pair beside d, the model beside its twin.
func mixed(t *testing.T, start uint32, d, twin *disk.Disk) pair {
	t.Helper()
	var list [][]byte
	var same []string
	for k := range 60 {
		b := sample.Mingled(start+uint32(k), 1+int(sample.Mingled(start, 60)[k])%90)
		list = append(list, b)
		same = append(same, string(b))
	}
	limit := uint64(20 + start%150)
	return pair{beside(t, d, limit, list...), &model{twin: twin, limit: limit, draws: same}}
}

func TestAllAsTheWordsSay(t *testing.T) {
	for start := range uint32(80) {
		d, twin := fresh(t), fresh(t)
		pairs := []pair{mixed(t, start, d, twin), mixed(t, start+1000, d, twin)}
		told := sample.Mingled(start*7919, 4*600)
		for k := range 600 {
			x := told[4*k:][:4]
			if x[3]%8 == 0 {
				what := bothers(x, d, twin)
				pairs[0].like(t, fmt.Sprintf("%d, %d: behind %s", start, k, what), d)
				continue
			}
			what, got, want := pairs[x[2]%2].does(x)
			if got != want {
				t.Fatalf("%d, %d: %s: %s; want %s", start, k, what, got, want)
			}
			for _, p := range pairs {
				p.like(t, fmt.Sprintf("%d, %d: behind %s", start, k, what), d)
			}
		}
	}
}
