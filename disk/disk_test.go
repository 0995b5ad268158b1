package disk_test

import (
	"bytes"
	"fmt"
	"math"
	"slices"
	"strings"
	"testing"

	"donjon/api"
	"donjon/disk"
	"donjon/sample"
)

// full is a block of the byte x alone.
func full(x byte) []byte { return bytes.Repeat([]byte{x}, api.Block) }

// sectors is a block whose sectors are of these bytes alone.
func sectors(s string) []byte {
	b := make([]byte, api.Block)
	for i := range b {
		b[i] = s[i/api.Sector]
	}
	return b
}

// laid is the block b with s over it, from the byte at on.
func laid(b []byte, at int, s string) []byte {
	b = bytes.Clone(b)
	copy(b[at:], s)
	return b
}

// brief is b by its runs: each byte, and how often it stands there.
func brief(b []byte) string {
	var s strings.Builder
	for i := 0; i < len(b); {
		n := 1
		for i+n < len(b) && b[i+n] == b[i] {
			n++
		}
		fmt.Fprintf(&s, " %02x*%d", b[i], n)
		i += n
	}
	return s.String()
}

// fresh is a new device of so many blocks.
func fresh(t *testing.T, blocks int) *disk.Disk {
	t.Helper()
	d, e := disk.New(blocks)
	if d == nil || e != api.OK {
		t.Fatalf("New(%d): a device: %v, %v; want one, OK", blocks, d != nil, e)
	}
	return d
}

// tells holds it that the block i tells want.
func tells(t *testing.T, d *disk.Disk, i int, want []byte) {
	t.Helper()
	if b, e := d.Read(i); !bytes.Equal(b, want) || e != api.OK {
		t.Errorf("Read(%d):%s, %v; want%s", i, brief(b), e, brief(want))
	}
}

// firms holds it that want is firm of the block i.
func firms(t *testing.T, d *disk.Disk, i int, want []byte) {
	t.Helper()
	if b, e := d.Firm(i); !bytes.Equal(b, want) || e != api.OK {
		t.Errorf("Firm(%d):%s, %v; want%s", i, brief(b), e, brief(want))
	}
}

// counts holds it that so many writes wait and so many steps have counted.
func counts(t *testing.T, what string, d *disk.Disk, waiting int, steps uint64) {
	t.Helper()
	if d.Waiting() != waiting || d.Steps() != steps {
		t.Errorf("%s: %d writes wait, %d steps have counted; want %d, %d", what, d.Waiting(), d.Steps(), waiting, steps)
	}
}

// power holds it whether the power is off.
func power(t *testing.T, what string, d *disk.Disk, down bool) {
	t.Helper()
	if d.Down() != down {
		t.Errorf("%s: the power is off: %v; want %v", what, d.Down(), down)
	}
}

// view is all that a device tells by itself.
func view(d *disk.Disk) string {
	s := fmt.Sprint(d.Blocks(), d.Steps(), d.Waiting(), d.Down())
	for i := range d.Blocks() {
		now, e := d.Read(i)
		firm, f := d.Firm(i)
		s += fmt.Sprintf("\n%d:%s, %d;%s, %d", i, brief(now), e, brief(firm), f)
	}
	return s
}

// inside is all that a device tells, and what its forks come to: with nothing and with all that waits come through, and at the steps ahead of it.
func inside(d *disk.Disk) string {
	s := view(d)
	for _, mask := range []byte{0, 15} {
		f := d.Fork()
		f.Crash(bytes.Repeat([]byte{mask}, f.Waiting()))
		s += "\n" + view(f)
	}
	f := d.Fork()
	for range 9 {
		s += fmt.Sprint("\n", f.Step(), f.Steps(), f.Down())
	}
	return s
}

// stays holds it that the call answers the error want and changes nothing of the device.
func stays(t *testing.T, what string, d *disk.Disk, want api.Errno, call func() api.Errno) {
	t.Helper()
	was := inside(d)
	sample.Is(t, what, call(), want)
	if got := inside(d); got != was {
		t.Errorf("%s: the device has changed:\n%s\nwant\n%s", what, got, was)
	}
}

// A step is one of the three kinds of them.
type step struct {
	name string
	of   func(d *disk.Disk) api.Errno
}

func steps() []step {
	return []step{
		{"Write", func(d *disk.Disk) api.Errno { return d.Write(1, full('s')) }},
		{"Sync", (*disk.Disk).Sync},
		{"Step", (*disk.Disk).Step},
	}
}

// busy is a device of 8 blocks, in which something is firm, and something else waits.
func busy(t *testing.T) *disk.Disk {
	t.Helper()
	d := fresh(t, 8)
	sample.Is(t, "Write", d.Write(1, full('f')), api.OK)
	sample.Is(t, "Write", d.Write(7, full('g')), api.OK)
	sample.Is(t, "Sync", d.Sync(), api.OK)
	sample.Is(t, "Write", d.Write(1, full('w')), api.OK)
	sample.Is(t, "Write", d.Write(0, full('x')), api.OK)
	counts(t, "a busy device", d, 2, 5)
	return d
}

// off is a busy device whose power went off.
func off(t *testing.T) *disk.Disk {
	t.Helper()
	d := busy(t)
	d.Cut(0)
	sample.Is(t, "a Step at which the power goes", d.Step(), api.ErrDown)
	power(t, "behind a Cut", d, true)
	return d
}

// far is numbers of blocks that no device has.
var far = []int{math.MinInt, math.MinInt + 1, -1 << 32, -1<<32 + 1, math.MinInt32, -256, -9, -8, -2, -1, api.MaxBlocks, api.MaxBlocks + 1, math.MaxInt32, 1 << 31, 1 << 32, 1<<32 + 1, 1 << 40, math.MaxInt - 1, math.MaxInt}

// lengths is lengths that no block has.
var lengths = []int{0, 1, 2, 64, 254, 255, 257, 258, 320, 512, 65536}

// The chapter's examples

func TestExamples(t *testing.T) {
	if d, e := disk.New(7); d != nil || e != api.ErrArg {
		t.Errorf("New(7): a device: %v, %v", d != nil, e)
	}
	a, b := full('a'), full('b')
	d := fresh(t, 8)
	sample.Is(t, "Write(0, A)", d.Write(0, a), api.OK)
	counts(t, "Write(0, A)", d, 1, 1)
	firms(t, d, 0, make([]byte, 256))
	sample.Is(t, "Write(0, B)", d.Write(0, b), api.OK)
	sample.Is(t, "Crash(15 1)", d.Crash([]uint8{15, 1}), api.OK)
	tells(t, d, 0, sectors("baaa"))

	d = fresh(t, 8)
	sample.Is(t, "Write(1, A)", d.Write(1, a), api.OK)
	sample.Is(t, "Sync", d.Sync(), api.OK)
	sample.Is(t, "Write(1, B)", d.Write(1, b), api.OK)
	sample.Is(t, "Crash(none)", d.Crash(nil), api.OK)
	tells(t, d, 1, a)

	d = fresh(t, 8)
	d.Fail(2)
	sample.Is(t, "Write(0, A)", d.Write(0, a), api.OK)
	sample.Is(t, "Sync", d.Sync(), api.ErrIO)
	counts(t, "Fail(2)", d, 1, 2)

	d = fresh(t, 8)
	d.Cut(1)
	sample.Is(t, "Write(0, A)", d.Write(0, a), api.OK)
	sample.Is(t, "Sync", d.Sync(), api.ErrDown)
	power(t, "Cut(1)", d, true)
	if got, e := d.Read(0); len(got) != 0 || e != api.ErrDown {
		t.Errorf("Read(0) with the power off:%s, %v", brief(got), e)
	}
	sample.Is(t, "Crash(15)", d.Crash([]uint8{15}), api.OK)
	tells(t, d, 0, a)

	sample.Is(t, "Foreign(0, 250, seven bytes)", d.Foreign(0, 250, a[:7]), api.ErrArg)
}

// P8.1 (New, Blocks)

func TestNew(t *testing.T) {
	for _, n := range []int{math.MinInt, math.MinInt32, -4096, -8, -1, 0, 1, 6, 7, 4097, 4098, 8192, math.MaxInt32, 1 << 32, 1<<32 + 8, math.MaxInt} {
		if d, e := disk.New(n); d != nil || e != api.ErrArg {
			t.Errorf("New(%d): a device: %v, %v; want none, ErrArg", n, d != nil, e)
		}
	}
	for _, n := range []int{8, 9, 10, 100, 255, 256, 257, 4095, 4096} {
		d := fresh(t, n)
		if d.Blocks() != n {
			t.Errorf("Blocks of New(%d) = %d", n, d.Blocks())
		}
		counts(t, "a new device", d, 0, 0)
		power(t, "a new device", d, false)
		for i := range n {
			tells(t, d, i, make([]byte, 256))
			firms(t, d, i, make([]byte, 256))
		}
	}
}

func TestNewDevicesAreApart(t *testing.T) {
	one, two := fresh(t, 8), fresh(t, 8)
	was := inside(two)
	sample.Is(t, "Write", one.Write(0, full('a')), api.OK)
	sample.Is(t, "Sync", one.Sync(), api.OK)
	one.Fail(1)
	one.Cut(1)
	sample.Is(t, "Foreign", one.Foreign(1, 0, full('b')), api.OK)
	if inside(two) != was {
		t.Error("a device knows what another one was told")
	}
}

func TestBlocksStay(t *testing.T) {
	d := off(t)
	if d.Blocks() != 8 {
		t.Errorf("Blocks with the power off = %d; want 8", d.Blocks())
	}
	d.Crash(nil)
	if d.Blocks() != 8 {
		t.Errorf("Blocks behind a Crash = %d; want 8", d.Blocks())
	}
}

// P8.2 (Read)

func TestReadTellsWhatWasWrittenLast(t *testing.T) {
	const blocks = 9
	d := fresh(t, blocks)
	want := make([][]byte, blocks)
	for i := range blocks {
		want[i] = make([]byte, 256)
	}
	for k, i := range []int{0, 8, 3, 3, 0, 7, 8, 1} {
		want[i] = sample.Mingled(uint32(k), 256)
		sample.Is(t, "Write", d.Write(i, want[i]), api.OK)
		for j := range blocks {
			tells(t, d, j, want[j])
			firms(t, d, j, make([]byte, 256))
		}
	}
	sample.Is(t, "Sync", d.Sync(), api.OK)
	for j := range blocks {
		tells(t, d, j, want[j])
		firms(t, d, j, want[j])
	}
}

func TestBlocksThatAreNot(t *testing.T) {
	for _, n := range []int{8, 9, 4096} {
		d := fresh(t, n)
		sample.Is(t, "Write of the first one", d.Write(0, full('a')), api.OK)
		sample.Is(t, "Write of the last one", d.Write(n-1, full('b')), api.OK)
		sample.Is(t, "Sync", d.Sync(), api.OK)
		tells(t, d, 0, full('a'))
		tells(t, d, n-1, full('b'))
		sample.Is(t, "Foreign of the first one", d.Foreign(0, 1, []byte("c")), api.OK)
		sample.Is(t, "Foreign of the last one", d.Foreign(n-1, 2, []byte("d")), api.OK)
		for range 2 {
			tells(t, d, 0, laid(full('a'), 1, "c"))
			firms(t, d, 0, laid(full('a'), 1, "c"))
			tells(t, d, n-1, laid(full('b'), 2, "d"))
			firms(t, d, n-1, laid(full('b'), 2, "d"))
			for _, i := range append([]int{n, n + 1, 2 * n}, far...) {
				refusesBlock(t, d, i)
			}
		}
		counts(t, "behind what was refused", d, 0, 3)
	}
}

// refusesBlock holds it that there is no block i.
func refusesBlock(t *testing.T, d *disk.Disk, i int) {
	t.Helper()
	if b, e := d.Read(i); len(b) != 0 || e != api.ErrArg {
		t.Errorf("Read(%d) of %d blocks: %d bytes, %v; want ErrArg", i, d.Blocks(), len(b), e)
	}
	if b, e := d.Firm(i); len(b) != 0 || e != api.ErrArg {
		t.Errorf("Firm(%d) of %d blocks: %d bytes, %v; want ErrArg", i, d.Blocks(), len(b), e)
	}
	what := fmt.Sprintf("of the block %d of %d", i, d.Blocks())
	sample.Is(t, "Write "+what, d.Write(i, full('z')), api.ErrArg)
	sample.Is(t, "Foreign "+what, d.Foreign(i, 0, full('z')), api.ErrArg)
	sample.Is(t, "Foreign of nothing "+what, d.Foreign(i, 0, nil), api.ErrArg)
}

func TestReadWithThePowerOff(t *testing.T) {
	d := off(t)
	for i := range 8 {
		if b, e := d.Read(i); len(b) != 0 || e != api.ErrDown {
			t.Errorf("Read(%d) with the power off: %d bytes, %v; want ErrDown", i, len(b), e)
		}
	}
	for _, i := range append([]int{8, 9}, far...) {
		refusesBlock(t, d, i)
	}
	firms(t, d, 0, full(0))
	firms(t, d, 1, full('f'))
	firms(t, d, 7, full('g'))
	counts(t, "with the power off", d, 2, 5)
	d.Crash([]uint8{0, 15})
	tells(t, d, 0, full('x'))
	tells(t, d, 1, full('f'))
	tells(t, d, 2, full(0))
	tells(t, d, 7, full('g'))
}

func TestReadIsNoStep(t *testing.T) {
	d := busy(t)
	d.Cut(1)
	d.Fail(1)
	was := inside(d)
	for i := range 8 {
		d.Read(i)
		d.Firm(i)
		d.Foreign(i, 0, nil)
		d.Waiting()
		d.Steps()
		d.Down()
		d.Blocks()
		d.Fork()
	}
	if got := inside(d); got != was {
		t.Errorf("what only asks has changed the device:\n%s\nwant\n%s", got, was)
	}
}

// P8.3 (Write, Sync, Step)

func TestWriteOfLengths(t *testing.T) {
	d := busy(t)
	for _, n := range lengths {
		for _, i := range []int{0, 1, 7} {
			stays(t, fmt.Sprintf("Write(%d, %d bytes)", i, n), d, api.ErrArg, func() api.Errno { return d.Write(i, sample.Mingled(1, n)) })
		}
	}
	stays(t, "Write(0, nil)", d, api.ErrArg, func() api.Errno { return d.Write(0, nil) })
	room := sample.Mingled(2, 400)
	stays(t, "Write of 255 bytes with room for more", d, api.ErrArg, func() api.Errno { return d.Write(0, room[:255]) })
	sample.Is(t, "Write of 256 bytes with room for more", d.Write(0, room[7:263]), api.OK)
	tells(t, d, 0, room[7:263])
	counts(t, "behind a Write", d, 3, 6)
}

func TestWriteWaits(t *testing.T) {
	d := busy(t)
	sample.Is(t, "Write", d.Write(3, full('n')), api.OK)
	counts(t, "behind a Write", d, 3, 6)
	tells(t, d, 3, full('n'))
	firms(t, d, 3, full(0))
	sample.Is(t, "Write of the same", d.Write(3, full('n')), api.OK)
	counts(t, "behind one of the same", d, 4, 7)
	sample.Is(t, "Write of noughts", d.Write(3, full(0)), api.OK)
	counts(t, "behind one of noughts", d, 5, 8)
	tells(t, d, 0, full('x'))
	tells(t, d, 1, full('w'))
	tells(t, d, 3, full(0))
	firms(t, d, 1, full('f'))
}

func TestSyncMakesFirm(t *testing.T) {
	d := busy(t)
	sample.Is(t, "Write", d.Write(1, full('y')), api.OK)
	sample.Is(t, "Sync", d.Sync(), api.OK)
	counts(t, "behind a Sync", d, 0, 7)
	for i, x := range []byte{'x', 'y', 0, 0, 0, 0, 0, 'g'} {
		tells(t, d, i, full(x))
		firms(t, d, i, full(x))
	}
	sample.Is(t, "Sync of nothing", d.Sync(), api.OK)
	counts(t, "behind a Sync of nothing", d, 0, 8)
	d.Crash([]uint8{15, 15, 15})
	for i, x := range []byte{'x', 'y', 0, 0, 0, 0, 0, 'g'} {
		tells(t, d, i, full(x))
		firms(t, d, i, full(x))
	}
}

func TestStepDoesNothingButCount(t *testing.T) {
	d := busy(t)
	sample.Is(t, "Step", d.Step(), api.OK)
	counts(t, "behind a Step", d, 2, 6)
	for i, x := range []byte{'x', 'w', 0, 0, 0, 0, 0, 'g'} {
		tells(t, d, i, full(x))
	}
	for i, x := range []byte{0, 'f', 0, 0, 0, 0, 0, 'g'} {
		firms(t, d, i, full(x))
	}
	sample.Is(t, "Crash", d.Crash([]uint8{1, 2}), api.OK)
	tells(t, d, 1, sectors("wfff"))
	tells(t, d, 0, sectors("\x00x\x00\x00"))
}

// Which error comes first

func TestArgumentsComeAheadOfSteps(t *testing.T) {
	bad := []struct {
		i, n int
	}{{-1, 256}, {8, 256}, {0, 255}, {0, 257}, {0, 0}, {-1, 0}, {math.MaxInt, 257}, {math.MinInt, 0}}
	for _, x := range bad {
		for cut := -1; cut < 3; cut++ {
			for fail := range 3 {
				d := busy(t)
				d.Cut(cut)
				d.Fail(fail)
				what := fmt.Sprintf("Write(%d, %d bytes) behind Cut(%d) and Fail(%d)", x.i, x.n, cut, fail)
				stays(t, what, d, api.ErrArg, func() api.Errno { return d.Write(x.i, make([]byte, x.n)) })
			}
		}
		d := off(t)
		stays(t, "Write with the power off", d, api.ErrArg, func() api.Errno { return d.Write(x.i, make([]byte, x.n)) })
	}
}

func TestPowerComesAheadOfFailures(t *testing.T) {
	for _, s := range steps() {
		d := busy(t)
		d.Fail(1)
		d.Cut(0)
		sample.Is(t, s.name+" that fails and at which the power goes", s.of(d), api.ErrDown)
		power(t, s.name, d, true)
		counts(t, s.name, d, 2, 5)
		sample.Is(t, s.name+" behind it", s.of(d), api.ErrDown)
		d.Fail(1)
		sample.Is(t, s.name+" with the power off, told to fail", s.of(d), api.ErrDown)
		counts(t, s.name, d, 2, 5)
	}
}

// What a step that has an error leaves alone

func TestAStepThatFailsDoesNothing(t *testing.T) {
	for _, s := range steps() {
		d := busy(t)
		d.Fail(1)
		sample.Is(t, s.name+" that fails", s.of(d), api.ErrIO)
		counts(t, s.name+" that fails", d, 2, 6)
		power(t, s.name+" that fails", d, false)
		like := busy(t)
		sample.Is(t, "Step", like.Step(), api.OK)
		if got, want := inside(d), inside(like); got != want {
			t.Errorf("%s that failed has changed the device:\n%s\nwant\n%s", s.name, got, want)
		}
	}
}

func TestAStepAtWhichThePowerGoesDoesNothing(t *testing.T) {
	for _, s := range steps() {
		d := busy(t)
		d.Cut(0)
		sample.Is(t, s.name+" at which the power goes", s.of(d), api.ErrDown)
		power(t, s.name+" at which the power goes", d, true)
		counts(t, s.name+" at which the power goes", d, 2, 5)
		if got, want := inside(d), inside(off(t)); got != want {
			t.Errorf("%s at which the power went has changed the device:\n%s\nwant\n%s", s.name, got, want)
		}
		stays(t, s.name+" with the power off", d, api.ErrDown, func() api.Errno { return s.of(d) })
	}
}

func TestWhatAFailedStepLeavesWaiting(t *testing.T) {
	d := fresh(t, 8)
	sample.Is(t, "Write", d.Write(2, full('a')), api.OK)
	d.Fail(1)
	sample.Is(t, "Write that fails", d.Write(2, full('b')), api.ErrIO)
	sample.Is(t, "Write", d.Write(3, full('c')), api.OK)
	d.Fail(1)
	sample.Is(t, "Sync that fails", d.Sync(), api.ErrIO)
	counts(t, "behind both", d, 2, 4)
	tells(t, d, 2, full('a'))
	tells(t, d, 3, full('c'))
	firms(t, d, 2, full(0))
	firms(t, d, 3, full(0))
	d.Crash([]uint8{1, 2})
	tells(t, d, 2, sectors("a\x00\x00\x00"))
	tells(t, d, 3, sectors("\x00c\x00\x00"))
}

// P8.4 (Steps, Fail, Cut, Down)

// goes holds it that the device's next steps, of all kinds in turn, answer these errors.
func goes(t *testing.T, what string, d *disk.Disk, want ...api.Errno) {
	t.Helper()
	count, down := d.Steps(), d.Down()
	for k, e := range want {
		s := steps()[k%3]
		sample.Is(t, fmt.Sprintf("%s: the step %d, %s", what, k+1, s.name), s.of(d), e)
		if e == api.ErrDown {
			down = true
		} else {
			count++
		}
		if d.Steps() != count || d.Down() != down {
			t.Errorf("%s: behind the step %d: %d steps have counted, the power is off: %v; want %d, %v", what, k+1, d.Steps(), d.Down(), count, down)
		}
	}
}

// run is n steps without an error, and behind them those that are told.
func run(n int, then ...api.Errno) []api.Errno {
	return append(make([]api.Errno, n), then...)
}

// never is numbers below 1.
var never = []int{0, -1, -2, -100, math.MinInt32, -1 << 32, math.MinInt + 1, math.MinInt}

// late is numbers of steps that no test takes.
var late = []int{1000, math.MaxInt32, 1 << 32, 1<<32 + 1, math.MaxInt - 1, math.MaxInt}

func TestFailNamesOneStep(t *testing.T) {
	for ahead := range 4 {
		for n := 1; n < 20; n++ {
			d := fresh(t, 8)
			goes(t, "without a Fail", d, run(ahead)...)
			d.Fail(n)
			power(t, "Fail", d, false)
			goes(t, fmt.Sprintf("Fail(%d) behind %d steps", n, ahead), d, append(run(n-1, api.ErrIO), run(30)...)...)
		}
	}
	for _, n := range slices.Concat(never, late) {
		d := fresh(t, 8)
		d.Fail(n)
		goes(t, fmt.Sprintf("Fail(%d)", n), d, run(50)...)
		d.Fail(2)
		d.Fail(n)
		goes(t, fmt.Sprintf("Fail(2), Fail(%d)", n), d, run(50)...)
	}
}

func TestFailToldAnew(t *testing.T) {
	for first := 1; first < 8; first++ {
		for between := range 10 {
			for second := range 8 {
				d := fresh(t, 8)
				d.Fail(first)
				want := run(between)
				if first <= between {
					want[first-1] = api.ErrIO
				}
				what := fmt.Sprintf("Fail(%d), %d steps, Fail(%d)", first, between, second)
				goes(t, what, d, want...)
				d.Fail(second)
				want = run(20)
				if second > 0 {
					want[second-1] = api.ErrIO
				}
				goes(t, what, d, want...)
			}
		}
	}
}

func TestCutEndsSteps(t *testing.T) {
	for ahead := range 4 {
		for n := range 20 {
			d := fresh(t, 8)
			goes(t, "without a Cut", d, run(ahead)...)
			d.Cut(n)
			power(t, "Cut", d, false)
			goes(t, fmt.Sprintf("Cut(%d) behind %d steps", n, ahead), d, run(n, api.ErrDown, api.ErrDown, api.ErrDown, api.ErrDown)...)
		}
	}
	for _, n := range slices.Concat(never[1:], late) {
		d := fresh(t, 8)
		d.Cut(n)
		goes(t, fmt.Sprintf("Cut(%d)", n), d, run(50)...)
		d.Cut(2)
		d.Cut(n)
		goes(t, fmt.Sprintf("Cut(2), Cut(%d)", n), d, run(50)...)
	}
}

func TestCutToldAnew(t *testing.T) {
	for first := range 8 {
		for between := range first + 1 {
			for second := -2; second < 8; second++ {
				d := fresh(t, 8)
				d.Cut(first)
				what := fmt.Sprintf("Cut(%d), %d steps, Cut(%d)", first, between, second)
				goes(t, what, d, run(between)...)
				d.Cut(second)
				if second < 0 {
					goes(t, what, d, run(20)...)
					continue
				}
				goes(t, what, d, run(second, api.ErrDown, api.ErrDown)...)
			}
		}
	}
}

func TestThePowerStaysOff(t *testing.T) {
	for _, n := range []int{math.MinInt, -1, 0, 1, 2, 100, math.MaxInt} {
		d := off(t)
		d.Cut(n)
		d.Fail(n)
		power(t, "behind another Cut", d, true)
		goes(t, fmt.Sprintf("Cut(%d) with the power off", n), d, api.ErrDown, api.ErrDown, api.ErrDown, api.ErrDown)
		counts(t, "with the power off", d, 2, 5)
		d.Crash(nil)
		goes(t, "with the power on again", d, run(20)...)
	}
}

func TestFailAndCutAtOnce(t *testing.T) {
	for fail := range 8 {
		for cut := -1; cut < 8; cut++ {
			for _, order := range []string{"Fail, Cut", "Cut, Fail"} {
				d := fresh(t, 8)
				if order == "Fail, Cut" {
					d.Fail(fail)
					d.Cut(cut)
				} else {
					d.Cut(cut)
					d.Fail(fail)
				}
				want := run(12)
				if fail > 0 {
					want[fail-1] = api.ErrIO
				}
				if cut >= 0 {
					for k := cut; k < len(want); k++ {
						want[k] = api.ErrDown
					}
				}
				goes(t, fmt.Sprintf("%s of %d and %d", order, fail, cut), d, want...)
			}
		}
	}
}

func TestStepsOfEachKindCount(t *testing.T) {
	for _, s := range steps() {
		d := fresh(t, 8)
		for k := range 10 {
			counts(t, s.name, d, d.Waiting(), uint64(k))
			sample.Is(t, s.name, s.of(d), api.OK)
		}
		for n := 1; n < 4; n++ {
			d := fresh(t, 8)
			d.Fail(n)
			for k := 1; k < 6; k++ {
				want := api.OK
				if k == n {
					want = api.ErrIO
				}
				sample.Is(t, fmt.Sprintf("%s %d behind Fail(%d)", s.name, k, n), s.of(d), want)
				counts(t, s.name, d, d.Waiting(), uint64(k))
			}
			d = fresh(t, 8)
			d.Cut(n)
			for k := 1; k < 6; k++ {
				want := api.OK
				if k > n {
					want = api.ErrDown
				}
				sample.Is(t, fmt.Sprintf("%s %d behind Cut(%d)", s.name, k, n), s.of(d), want)
				counts(t, s.name, d, d.Waiting(), uint64(min(k, n)))
			}
		}
	}
}

func TestCallsThatAreNoSteps(t *testing.T) {
	d := fresh(t, 8)
	d.Fail(2)
	d.Cut(2)
	for range 10 {
		d.Read(0)
		d.Firm(0)
		d.Foreign(0, 0, []byte("f"))
		d.Write(0, []byte("f"))
		d.Write(8, full('f'))
		d.Waiting()
		d.Fork().Step()
	}
	counts(t, "calls that are no steps", d, 0, 0)
	goes(t, "behind calls that are no steps", d, api.OK, api.ErrIO, api.ErrDown)
}
