package regs_test

import (
	"bytes"
	"fmt"
	"math"
	"strings"
	"testing"

	"donjon/api"
	"donjon/disk"
	"donjon/regs"
	"donjon/sample"
)

// fresh is a new device.
func fresh(t *testing.T) *disk.Disk {
	t.Helper()
	d, e := disk.New(8)
	if d == nil || e != api.OK {
		t.Fatalf("disk.New: a device: %v, %v; want one, OK", d != nil, e)
	}
	return d
}

// beside is new registers beside d.
func beside(t *testing.T, d *disk.Disk, limit uint64, draws ...[]byte) *regs.Regs {
	t.Helper()
	r, e := regs.New(d, limit, draws)
	if r == nil || e != api.OK {
		t.Fatalf("New: registers: %v, %v; want some, OK", r != nil, e)
	}
	return r
}

// at is new registers beside a new device: so many numbers were given out, and this one counts.
func at(t *testing.T, limit, reserved, committed uint64, draws ...[]byte) (*regs.Regs, *disk.Disk) {
	t.Helper()
	d := fresh(t)
	r := beside(t, d, limit, draws...)
	for n := range reserved {
		gives(t, "Reserve", r, n+1)
	}
	if committed > 0 {
		sample.Is(t, "Advance", r.Advance(committed), api.OK)
	}
	return r, d
}

// lot is draws of these lengths.
func lot(lengths ...int) [][]byte {
	l := make([][]byte, len(lengths))
	for i, n := range lengths {
		l[i] = sample.Mingled(uint32(i), n)
	}
	return l
}

// holds holds it what the registers tell.
func holds(t *testing.T, what string, r *regs.Regs, reserved, committed uint64, left int) {
	t.Helper()
	if r.Reserved() != reserved || r.Committed() != committed || r.Left() != left {
		t.Errorf("%s: reserved %d, committed %d, %d draws left; want %d, %d, %d", what, r.Reserved(), r.Committed(), r.Left(), reserved, committed, left)
	}
}

// gives holds it that the next number that is given out is want.
func gives(t *testing.T, what string, r *regs.Regs, want uint64) {
	t.Helper()
	if n, e := r.Reserve(); n != want || e != api.OK {
		t.Errorf("%s: Reserve: %d, %v; want %d, OK", what, n, e, want)
	}
}

// keeps holds it that no number is given out, and that the error is want.
func keeps(t *testing.T, what string, r *regs.Regs, want api.Errno) {
	t.Helper()
	if n, e := r.Reserve(); n != 0 || e != want {
		t.Errorf("%s: Reserve: %d, %v; want 0, %v", what, n, e, want)
	}
}

// draws holds it that a Draw of so many bytes tells want.
func draws(t *testing.T, what string, r *regs.Regs, size int, want []byte) {
	t.Helper()
	if b, e := r.Draw(size); !bytes.Equal(b, want) || e != api.OK {
		t.Errorf("%s: Draw(%d): %x, %v; want %x, OK", what, size, b, e, want)
	}
}

// refuses holds it that a Draw of so many bytes tells nothing, and that the error is want.
func refuses(t *testing.T, what string, r *regs.Regs, size int, want api.Errno) {
	t.Helper()
	if b, e := r.Draw(size); len(b) != 0 || e != want {
		t.Errorf("%s: Draw(%d): %x, %v; want none, %v", what, size, b, e, want)
	}
}

// drains holds it that these draws are left, by drawing each whole, or 64 bytes of it.
func drains(t *testing.T, what string, r *regs.Regs, want ...[]byte) {
	t.Helper()
	for k, b := range want {
		if r.Left() != len(want)-k {
			t.Errorf("%s: %d draws left; want %d", what, r.Left(), len(want)-k)
		}
		b = b[:min(len(b), 64)]
		draws(t, what, r, len(b), b)
	}
	refuses(t, what, r, 1, api.ErrDry)
}

// inside is all that registers and their device tell, and what the device's next steps come to.
func inside(r *regs.Regs, d *disk.Disk) string {
	var s strings.Builder
	fmt.Fprintln(&s, r.Reserved(), r.Committed(), r.Left(), d.Steps(), d.Waiting(), d.Down())
	for i := range d.Blocks() {
		firm, _ := d.Firm(i)
		now, e := d.Read(i)
		fmt.Fprintf(&s, "%x %x %v\n", firm, now, e)
	}
	f := d.Fork()
	for range 5 {
		fmt.Fprintln(&s, f.Step(), f.Steps(), f.Down())
	}
	return s.String()
}

// stays holds it that what is done changes nothing of the registers and of the device.
func stays(t *testing.T, what string, r *regs.Regs, d *disk.Disk, do func()) {
	t.Helper()
	was := inside(r, d)
	do()
	if got := inside(r, d); got != was {
		t.Errorf("%s has changed something:\n%s\nwant\n%s", what, got, was)
	}
}

// troubles is what can stand in the way of a device's next step, and the error that it has then; OK: nothing does.
func troubles() map[api.Errno]func(d *disk.Disk) {
	return map[api.Errno]func(d *disk.Disk){
		api.OK:    func(d *disk.Disk) {},
		api.ErrIO: func(d *disk.Disk) { d.Fail(1) },
		// The power is still on here: it goes at the step.
		api.ErrDown: func(d *disk.Disk) { d.Cut(0) },
	}
}

func off(d *disk.Disk) {
	d.Cut(0)
	d.Step()
}

// greatest is the greatest number there is.
const greatest = math.MaxUint64

// limits is some, from the least to the greatest.
func limits() []uint64 {
	return []uint64{0, 1, 2, 3, 7, 100, 1<<31 - 1, 1 << 31, 1<<32 - 1, 1 << 32, 1<<63 - 1, 1 << 63, greatest - 1, greatest}
}

// The chapter's examples

func TestExamples(t *testing.T) {
	d := fresh(t)
	r := beside(t, d, 2, []byte("aaaa"), []byte("bb"))

	gives(t, "the first", r, 1)
	gives(t, "the second", r, 2)
	keeps(t, "the third", r, api.ErrSpent)
	holds(t, "behind Reserve", r, 2, 0, 2)

	sample.Is(t, "Advance(0)", r.Advance(0), api.ErrArg)
	sample.Is(t, "Advance(2)", r.Advance(2), api.OK)
	sample.Is(t, "Advance(1)", r.Advance(1), api.ErrArg)
	holds(t, "behind Advance", r, 2, 2, 2)

	draws(t, "the first draw", r, 3, []byte("aaa"))
	refuses(t, "the second draw", r, 3, api.ErrDry)
	draws(t, "the second draw", r, 2, []byte("bb"))
	refuses(t, "no draw", r, 1, api.ErrDry)
	holds(t, "behind Draw", r, 2, 2, 0)

	r = beside(t, d, 2, []byte("aaaa"), []byte("bb"))
	d.Fail(1)
	keeps(t, "the step that fails", r, api.ErrIO)
	gives(t, "the step behind it", r, 1)
}

// P9.1 (New, Reserved, Committed, Left)

func TestNewStandsAtNought(t *testing.T) {
	for _, limit := range limits() {
		for _, list := range [][][]byte{nil, {}, {nil}, {{}}, lot(1), lot(64), lot(65), lot(1000), {nil, {}, {1}, nil}, lot(0, 1, 64, 65, 1000), make([][]byte, 3000)} {
			d := fresh(t)
			r, e := regs.New(d, limit, list)
			what := fmt.Sprintf("New with the limit %d and %d draws", limit, len(list))
			if r == nil || e != api.OK {
				t.Fatalf("%s: registers: %v, %v", what, r != nil, e)
			}
			holds(t, what, r, 0, 0, len(list))
			if d.Steps() != 0 {
				t.Errorf("%s counts %d steps", what, d.Steps())
			}
		}
	}
}

func TestNewBesideNoDevice(t *testing.T) {
	for _, limit := range limits() {
		for _, list := range [][][]byte{nil, {}, {nil}, lot(1, 64)} {
			if r, e := regs.New(nil, limit, list); r != nil || e != api.ErrNil {
				t.Errorf("New beside no device: registers: %v, %v; want none, ErrNil", r != nil, e)
			}
		}
	}
}

func TestNewIsNoStep(t *testing.T) {
	for want, trouble := range troubles() {
		d := fresh(t)
		trouble(d)
		r := beside(t, d, 9, lot(5)...)
		holds(t, "New", r, 0, 0, 1)
		if d.Steps() != 0 || d.Down() {
			t.Errorf("New counts %d steps, the power is off: %v", d.Steps(), d.Down())
		}
		sample.Is(t, "the step behind New", d.Step(), want)
	}
	d := fresh(t)
	off(d)
	r := beside(t, d, 9, lot(5)...)
	holds(t, "New with the power off", r, 0, 0, 1)
	keeps(t, "New with the power off", r, api.ErrDown)
	sample.Is(t, "Crash", d.Crash(nil), api.OK)
	gives(t, "behind the power's coming again", r, 1)
}

func TestNewBesideADeviceThatWasUsed(t *testing.T) {
	r, d := at(t, 9, 5, 3, lot(5, 6)...)
	sample.Is(t, "Write", d.Write(0, make([]byte, api.Block)), api.OK)
	s := beside(t, d, 9, lot(7)...)
	holds(t, "the new ones", s, 0, 0, 1)
	holds(t, "the old ones", r, 5, 3, 2)
	gives(t, "the new ones", s, 1)
}

func TestWhatIsToldStays(t *testing.T) {
	r, d := at(t, 9, 5, 3, lot(5, 6)...)
	d.Fail(1)
	d.Cut(2)
	stays(t, "asking what the registers tell", r, d, func() {
		for range 10 {
			holds(t, "again and again", r, 5, 3, 2)
		}
	})
	off(d)
	stays(t, "asking what the registers tell", r, d, func() { holds(t, "the power off", r, 5, 3, 2) })
}

// P9.2 (Reserve)

func TestReserveRisesByOneToTheLimit(t *testing.T) {
	for _, limit := range []uint64{0, 1, 2, 3, 10, 255, 256, 257, 3000} {
		r, d := at(t, limit, 0, 0, lot(4)...)
		for n := uint64(1); n <= limit; n++ {
			what := fmt.Sprintf("the limit %d", limit)
			gives(t, what, r, n)
			holds(t, what, r, n, 0, 1)
			if d.Steps() != n {
				t.Fatalf("%s: behind %d times Reserve %d steps have counted", what, n, d.Steps())
			}
		}
		stays(t, "Reserve at the limit", r, d, func() {
			for range 4 {
				keeps(t, fmt.Sprintf("at the limit %d", limit), r, api.ErrSpent)
			}
		})
		drains(t, "behind Reserve", r, lot(4)...)
	}
}

func TestReserveFarBelowTheLimit(t *testing.T) {
	for _, limit := range limits() {
		if limit < 300 {
			continue
		}
		r, _ := at(t, limit, 0, 0)
		for n := uint64(1); n <= 300; n++ {
			gives(t, fmt.Sprintf("the limit %d", limit), r, n)
		}
		holds(t, fmt.Sprintf("the limit %d", limit), r, 300, 0, 0)
	}
}

func TestReserveAboutTheLimit(t *testing.T) {
	r, d := at(t, 5, 4, 2)
	d.Fail(1)
	keeps(t, "one below the limit", r, api.ErrIO)
	holds(t, "one below the limit", r, 4, 2, 0)
	gives(t, "one below the limit", r, 5)
	keeps(t, "at the limit", r, api.ErrSpent)
	sample.Is(t, "Advance(5)", r.Advance(5), api.OK)
	keeps(t, "at the limit, all of it counting", r, api.ErrSpent)
	holds(t, "at the limit", r, 5, 5, 0)
}

func TestReserveDoesNothingElseToTheDevice(t *testing.T) {
	r, d := at(t, 9, 0, 0)
	b := sample.Mingled(1, api.Block)
	sample.Is(t, "Write", d.Write(3, b), api.OK)
	gives(t, "a write waiting", r, 1)
	sample.Is(t, "Advance", r.Advance(1), api.OK)
	firm, _ := d.Firm(3)
	now, _ := d.Read(3)
	if d.Waiting() != 1 || d.Steps() != 3 || !bytes.Equal(firm, make([]byte, api.Block)) || !bytes.Equal(now, b) {
		t.Errorf("a write, Reserve, Advance: %d wait, %d steps, %x firm, %x now", d.Waiting(), d.Steps(), firm, now)
	}
}

func TestSpentComesAheadOfTheStep(t *testing.T) {
	for limit := range uint64(4) {
		for want, trouble := range troubles() {
			r, d := at(t, limit, limit, 0, lot(3)...)
			trouble(d)
			what := fmt.Sprintf("at the limit %d, ahead of %v", limit, want)
			stays(t, what, r, d, func() { keeps(t, what, r, api.ErrSpent) })
			sample.Is(t, what+": the step that was not asked", d.Step(), want)
		}
		r, d := at(t, limit, limit, 0, lot(3)...)
		off(d)
		stays(t, "Reserve with the power off", r, d, func() { keeps(t, "the power off", r, api.ErrSpent) })
	}
}

func TestReserveAtAStepThatFails(t *testing.T) {
	for n := 1; n < 8; n++ {
		r, d := at(t, 9, 0, 0, lot(3)...)
		d.Fail(n)
		want := uint64(0)
		for k := 1; k < 10; k++ {
			what := fmt.Sprintf("Fail(%d), the step %d", n, k)
			if k == n {
				keeps(t, what, r, api.ErrIO)
			} else {
				want++
				gives(t, what, r, want)
			}
			holds(t, what, r, want, 0, 1)
			if d.Steps() != uint64(k) {
				t.Errorf("%s: %d steps have counted", what, d.Steps())
			}
		}
		drains(t, "behind a failure", r, lot(3)...)
	}
}

func TestReserveWhereThePowerGoes(t *testing.T) {
	for n := range 6 {
		r, d := at(t, 9, 0, 0, lot(3)...)
		d.Cut(n)
		for k := range uint64(n) {
			gives(t, fmt.Sprintf("Cut(%d)", n), r, k+1)
		}
		for range 3 {
			keeps(t, fmt.Sprintf("behind Cut(%d)", n), r, api.ErrDown)
			holds(t, fmt.Sprintf("behind Cut(%d)", n), r, uint64(n), 0, 1)
			if d.Steps() != uint64(n) || !d.Down() {
				t.Errorf("behind Cut(%d) %d steps have counted, the power is off: %v", n, d.Steps(), d.Down())
			}
		}
		sample.Is(t, "Crash", d.Crash(nil), api.OK)
		holds(t, "behind a Crash", r, uint64(n), 0, 1)
		gives(t, "behind a Crash", r, uint64(n)+1)
		drains(t, "behind a Crash", r, lot(3)...)
	}
}

// P9.3 (Advance)

func TestAdvanceOfEachNumber(t *testing.T) {
	far := []uint64{1 << 31, 1 << 32, 1<<32 + 1, 1<<32 + 2, 1<<63 - 1, 1 << 63, 1<<63 + 1, greatest - 1, greatest}
	for reserved := range uint64(7) {
		for committed := range reserved + 1 {
			for _, n := range append([]uint64{0, 1, 2, 3, 4, 5, 6, 7, 8}, far...) {
				r, d := at(t, 6, reserved, committed, lot(3)...)
				what := fmt.Sprintf("reserved %d, committed %d, Advance(%d)", reserved, committed, n)
				if n <= committed || n > reserved {
					stays(t, what, r, d, func() { sample.Is(t, what, r.Advance(n), api.ErrArg) })
					continue
				}
				was := d.Steps()
				sample.Is(t, what, r.Advance(n), api.OK)
				holds(t, what, r, reserved, n, 1)
				if d.Steps() != was+1 {
					t.Errorf("%s: %d steps", what, d.Steps()-was)
				}
				drains(t, what, r, lot(3)...)
			}
		}
	}
}

func TestAdvanceAheadOfReserve(t *testing.T) {
	for _, limit := range limits() {
		r, d := at(t, limit, 0, 0)
		for _, n := range limits() {
			stays(t, "Advance", r, d, func() { sample.Is(t, fmt.Sprintf("Advance(%d) ahead of Reserve", n), r.Advance(n), api.ErrArg) })
		}
	}
}

func TestAdvanceGoesOn(t *testing.T) {
	r, _ := at(t, 100, 0, 0)
	for k := uint64(1); k <= 20; k++ {
		for range 5 {
			r.Reserve()
		}
		// It may leave numbers out, and it may be told of the last one.
		sample.Is(t, "Advance", r.Advance(5*k-2), api.OK)
		sample.Is(t, "Advance to where it stands", r.Advance(5*k-2), api.ErrArg)
		sample.Is(t, "Advance back", r.Advance(5*k-3), api.ErrArg)
		sample.Is(t, "Advance", r.Advance(5*k), api.OK)
		sample.Is(t, "Advance beyond what was given out", r.Advance(5*k+1), api.ErrArg)
		holds(t, "Advance", r, 5*k, 5*k, 0)
	}
}

func TestArgComesAheadOfTheStep(t *testing.T) {
	for _, n := range []uint64{0, 1, 2, 5, 6, greatest} {
		for want, trouble := range troubles() {
			r, d := at(t, 9, 4, 2, lot(3)...)
			trouble(d)
			what := fmt.Sprintf("Advance(%d) ahead of %v", n, want)
			stays(t, what, r, d, func() { sample.Is(t, what, r.Advance(n), api.ErrArg) })
			sample.Is(t, what+": the step that was not asked", d.Step(), want)
		}
		r, d := at(t, 9, 4, 2, lot(3)...)
		off(d)
		stays(t, "Advance with the power off", r, d, func() { sample.Is(t, "Advance with the power off", r.Advance(n), api.ErrArg) })
	}
}

func TestAdvanceAtAStepThatFails(t *testing.T) {
	for n := 1; n < 8; n++ {
		r, d := at(t, 20, 20, 0, lot(3)...)
		d.Fail(n)
		want := uint64(0)
		for k := 1; k < 10; k++ {
			what := fmt.Sprintf("Fail(%d), the step %d", n, k)
			if k == n {
				sample.Is(t, what, r.Advance(want+1), api.ErrIO)
			} else {
				want++
				sample.Is(t, what, r.Advance(want), api.OK)
			}
			holds(t, what, r, 20, want, 1)
			if d.Steps() != 20+uint64(k) {
				t.Errorf("%s: %d steps have counted", what, d.Steps())
			}
		}
		drains(t, "behind a failure", r, lot(3)...)
	}
}

func TestAdvanceWhereThePowerGoes(t *testing.T) {
	for n := range 6 {
		r, d := at(t, 9, 9, 0, lot(3)...)
		d.Cut(n)
		for k := range uint64(n) {
			sample.Is(t, fmt.Sprintf("Cut(%d)", n), r.Advance(k+1), api.OK)
		}
		for range 3 {
			sample.Is(t, fmt.Sprintf("behind Cut(%d)", n), r.Advance(9), api.ErrDown)
			holds(t, fmt.Sprintf("behind Cut(%d)", n), r, 9, uint64(n), 1)
			if d.Steps() != 9+uint64(n) || !d.Down() {
				t.Errorf("behind Cut(%d) %d steps have counted, the power is off: %v", n, d.Steps(), d.Down())
			}
		}
		sample.Is(t, "Crash", d.Crash(nil), api.OK)
		holds(t, "behind a Crash", r, 9, uint64(n), 1)
		sample.Is(t, "Advance behind a Crash", r.Advance(9), api.OK)
		drains(t, "behind a Crash", r, lot(3)...)
	}
}

// P9.4 (Draw)

func TestDrawOfEachSize(t *testing.T) {
	far := []int{math.MinInt, math.MinInt + 1, -1 << 32, -1 << 31, -256, -64, -2, -1, 128, 255, 256, 257, 1000, 1 << 31, 1 << 32, 1<<32 + 1, math.MaxInt - 1, math.MaxInt}
	sizes := append([]int{}, far...)
	for size := range 70 {
		sizes = append(sizes, size)
	}
	for _, length := range []int{0, 1, 2, 3, 31, 32, 33, 63, 64, 65, 66, 128, 256, 1000} {
		list := lot(length, 64)
		for _, size := range sizes {
			r, d := at(t, 9, 4, 2, list...)
			what := fmt.Sprintf("a draw of %d bytes", length)
			switch {
			case size < 1 || size > 64:
				stays(t, what, r, d, func() { refuses(t, what, r, size, api.ErrArg) })
			case size > length:
				stays(t, what, r, d, func() { refuses(t, what, r, size, api.ErrDry) })
			default:
				steps := d.Steps()
				draws(t, what, r, size, list[0][:size])
				holds(t, what, r, 4, 2, 1)
				drains(t, what, r, list[1])
				if d.Steps() != steps {
					t.Errorf("%s: Draw(%d) counts %d steps", what, size, d.Steps()-steps)
				}
			}
		}
	}
}

func TestDrawsComeInTheirOrder(t *testing.T) {
	list := lot(5, 64, 1, 65, 5, 1000, 33)
	for size := range 65 {
		r, _ := at(t, 9, 0, 0, list...)
		for k, b := range list {
			// Each is gone, however little of it was told.
			n := max(1, min(size, len(b)))
			draws(t, fmt.Sprintf("the draw %d", k), r, n, b[:n])
			holds(t, fmt.Sprintf("behind the draw %d", k), r, 0, 0, len(list)-k-1)
		}
		refuses(t, "no draw", r, max(1, size), api.ErrDry)
	}
}

func TestManyDraws(t *testing.T) {
	list := make([][]byte, 3000)
	for i := range list {
		list[i] = sample.Mingled(uint32(i), 16)
	}
	r, _ := at(t, 9, 0, 0, list...)
	drains(t, "3000 draws", r, list...)
}

func TestWhatIsTooShortStays(t *testing.T) {
	list := lot(5, 3)
	r, d := at(t, 9, 0, 0, list...)
	for _, size := range []int{64, 63, 7, 6, 6, 64} {
		stays(t, "Draw of too many", r, d, func() { refuses(t, "a draw of five bytes", r, size, api.ErrDry) })
	}
	draws(t, "what stayed", r, 5, list[0])
	refuses(t, "a draw of three bytes", r, 4, api.ErrDry)
	refuses(t, "a draw of three bytes", r, 65, api.ErrArg)
	draws(t, "what stayed", r, 2, list[1][:2])
	refuses(t, "no draw", r, 1, api.ErrDry)

	// A long one behind a short one is not told in its place; and an empty one is never told.
	for _, none := range [][]byte{nil, {}} {
		r, d = at(t, 9, 0, 0, none, sample.Mingled(1, 64))
		stays(t, "Draw", r, d, func() {
			for size := 1; size <= 64; size++ {
				refuses(t, "an empty draw", r, size, api.ErrDry)
			}
		})
		holds(t, "an empty draw", r, 0, 0, 2)
	}
}

func TestArgComesAheadOfDry(t *testing.T) {
	for _, list := range [][][]byte{nil, {}, {nil}, {{}}, lot(1), lot(3)} {
		r, d := at(t, 9, 0, 0, list...)
		for _, size := range []int{math.MinInt, -64, -1, 0, 65, 66, math.MaxInt} {
			stays(t, "Draw", r, d, func() { refuses(t, "what is too short as well", r, size, api.ErrArg) })
		}
		refuses(t, "what is too short", r, 64, api.ErrDry)
	}
	r, _ := at(t, 9, 0, 0, lot(3)...)
	drains(t, "the last one", r, lot(3)...)
	for _, size := range []int{math.MinInt, 0, 65, math.MaxInt} {
		refuses(t, "no draw left", r, size, api.ErrArg)
	}
}

func TestDrawIsNoStep(t *testing.T) {
	list := lot(5, 6, 7)
	for want, trouble := range troubles() {
		r, d := at(t, 9, 4, 2, list...)
		steps := d.Steps()
		trouble(d)
		drains(t, fmt.Sprintf("ahead of %v", want), r, list...)
		refuses(t, fmt.Sprintf("ahead of %v", want), r, 0, api.ErrArg)
		holds(t, fmt.Sprintf("ahead of %v", want), r, 4, 2, 0)
		if d.Steps() != steps || d.Down() {
			t.Errorf("Draw counts %d steps, the power is off: %v", d.Steps()-steps, d.Down())
		}
		sample.Is(t, "the step behind Draw", d.Step(), want)
	}
	r, d := at(t, 9, 4, 2, list...)
	off(d)
	drains(t, "with the power off", r, list...)
	refuses(t, "with the power off", r, 65, api.ErrArg)
	holds(t, "with the power off", r, 4, 2, 0)
}

// No loss of power changes any of this

func TestACrashChangesNothingOfTheRegisters(t *testing.T) {
	list := lot(5, 6, 64)
	for _, masks := range [][]uint8{nil, {0}, {15}, {3, 12}, bytes.Repeat([]byte{255}, 20)} {
		for _, power := range []func(d *disk.Disk){func(d *disk.Disk) {}, off, func(d *disk.Disk) { d.Cut(0) }} {
			r, d := at(t, 9, 4, 2, list...)
			sample.Is(t, "Sync", d.Sync(), api.OK)
			gives(t, "Reserve that no Sync follows", r, 5)
			sample.Is(t, "Advance that no Sync follows", r.Advance(3), api.OK)
			draws(t, "Draw that no Sync follows", r, 4, list[0][:4])
			sample.Is(t, "Write", d.Write(1, sample.Mingled(1, api.Block)), api.OK)
			steps := d.Steps()
			power(d)
			for range 2 {
				sample.Is(t, "Crash", d.Crash(masks), api.OK)
				holds(t, "behind a Crash", r, 5, 3, 2)
			}
			if d.Steps() != steps {
				t.Errorf("behind a Crash %d steps more have counted", d.Steps()-steps)
			}
			sample.Is(t, "Advance to where it stands", r.Advance(3), api.ErrArg)
			sample.Is(t, "Advance beyond what was given out", r.Advance(6), api.ErrArg)
			gives(t, "behind a Crash", r, 6)
			sample.Is(t, "Advance behind a Crash", r.Advance(6), api.OK)
			drains(t, "behind a Crash", r, list[1:]...)
		}
	}
}
