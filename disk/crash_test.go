package disk_test

import (
	"bytes"
	"fmt"
	"testing"

	"donjon/api"
	"donjon/disk"
	"donjon/sample"
)

// mixed is the block old with those sectors of a fresh one of the byte x that mask tells.
func mixed(old []byte, x byte, mask uint8) []byte {
	b := bytes.Clone(old)
	for i := range b {
		if mask>>(i/64)&1 == 1 {
			b[i] = x
		}
	}
	return b
}

// P8.5 (Crash)

func TestTheSecondSectorAlone(t *testing.T) {
	d := fresh(t, 8)
	sample.Is(t, "Write", d.Write(5, full('n')), api.OK)
	sample.Is(t, "Crash", d.Crash([]uint8{2}), api.OK)
	tells(t, d, 5, sectors("\x00n\x00\x00"))
	firms(t, d, 5, sectors("\x00n\x00\x00"))
}

func TestCrashOfEachMask(t *testing.T) {
	for mask := range 256 {
		for _, cut := range []bool{false, true} {
			d := fresh(t, 8)
			sample.Is(t, "Write", d.Write(4, full('o')), api.OK)
			sample.Is(t, "Sync", d.Sync(), api.OK)
			sample.Is(t, "Write", d.Write(4, full('n')), api.OK)
			if cut {
				d.Cut(0)
				sample.Is(t, "Sync", d.Sync(), api.ErrDown)
			}
			what := fmt.Sprintf("Crash(%d), the power off: %v", mask, cut)
			sample.Is(t, what, d.Crash([]uint8{uint8(mask)}), api.OK)
			power(t, what, d, false)
			counts(t, what, d, 0, 3)
			tells(t, d, 4, mixed(full('o'), 'n', uint8(mask)))
			firms(t, d, 4, mixed(full('o'), 'n', uint8(mask)))
		}
	}
	d := fresh(t, 8)
	sample.Is(t, "Write", d.Write(0, sectors("abcd")), api.OK)
	sample.Is(t, "Crash(6)", d.Crash([]uint8{6}), api.OK)
	tells(t, d, 0, sectors("\x00bc\x00"))
}

func TestCrashOfCounts(t *testing.T) {
	for waiting := range 6 {
		for masks := range 9 {
			d := fresh(t, 8)
			for k := range waiting {
				sample.Is(t, "Write", d.Write(k, full(byte('a'+k))), api.OK)
			}
			list := bytes.Repeat([]byte{5}, masks)
			sample.Is(t, "Crash", d.Crash(list), api.OK)
			for i := range 8 {
				want := full(0)
				if i < waiting && i < masks {
					want = mixed(want, byte('a'+i), 5)
				}
				tells(t, d, i, want)
				firms(t, d, i, want)
			}
			counts(t, "behind a Crash", d, 0, uint64(waiting))
		}
	}
}

func TestMasksGoByTheOrderOfWrites(t *testing.T) {
	d := fresh(t, 8)
	for _, i := range []int{5, 2, 7, 0} {
		sample.Is(t, "Write", d.Write(i, full(byte('0'+i))), api.OK)
	}
	sample.Is(t, "Crash", d.Crash([]uint8{1, 2, 4, 8}), api.OK)
	tells(t, d, 5, sectors("5\x00\x00\x00"))
	tells(t, d, 2, sectors("\x002\x00\x00"))
	tells(t, d, 7, sectors("\x00\x007\x00"))
	tells(t, d, 0, sectors("\x00\x00\x000"))
}

func TestCrashOfWritesOverOneAnother(t *testing.T) {
	for a := range 16 {
		for b := range 16 {
			for c := range 16 {
				d := fresh(t, 8)
				sample.Is(t, "Foreign", d.Foreign(6, 0, full('o')), api.OK)
				want := full('o')
				masks := []uint8{uint8(a), uint8(b) | 0xf0, uint8(c) | 0x20}
				for k, x := range []byte{'a', 'b', 'c'} {
					sample.Is(t, "Write", d.Write(6, full(x)), api.OK)
					want = mixed(want, x, masks[k])
				}
				sample.Is(t, "Crash", d.Crash(masks), api.OK)
				if got, e := d.Read(6); !bytes.Equal(got, want) || e != api.OK {
					t.Fatalf("Crash(%v) of three writes:%s, %v; want%s", masks, brief(got), e, brief(want))
				}
				firms(t, d, 6, want)
			}
		}
	}
}

func TestCrashOfWritesWithOthersBetween(t *testing.T) {
	d := fresh(t, 8)
	sample.Is(t, "Write", d.Write(1, full('a')), api.OK)
	sample.Is(t, "Write", d.Write(2, full('b')), api.OK)
	sample.Is(t, "Write", d.Write(1, full('c')), api.OK)
	sample.Is(t, "Write", d.Write(2, full('d')), api.OK)
	sample.Is(t, "Crash", d.Crash([]uint8{15, 3, 4, 9}), api.OK)
	tells(t, d, 1, sectors("aaca"))
	tells(t, d, 2, sectors("db\x00d"))
}

func TestACrashInWhichAllComesThrough(t *testing.T) {
	d := busy(t)
	sample.Is(t, "Write", d.Write(1, sample.Mingled(1, 256)), api.OK)
	was := make([][]byte, 8)
	for i := range was {
		was[i], _ = d.Read(i)
	}
	sample.Is(t, "Crash", d.Crash([]uint8{15, 15, 15}), api.OK)
	for i := range was {
		tells(t, d, i, was[i])
		firms(t, d, i, was[i])
	}
}

func TestWhatIsOverIsNotLookedAtAgain(t *testing.T) {
	all := bytes.Repeat([]byte{15}, 9)
	d := fresh(t, 8)
	sample.Is(t, "Write", d.Write(0, full('a')), api.OK)
	sample.Is(t, "Sync", d.Sync(), api.OK)
	sample.Is(t, "Write", d.Write(1, full('b')), api.OK)
	// The masks' first number is the one of the first write behind the Sync.
	sample.Is(t, "Crash", d.Crash([]uint8{2, 8}), api.OK)
	tells(t, d, 0, full('a'))
	tells(t, d, 1, sectors("\x00b\x00\x00"))
	sample.Is(t, "Crash", d.Crash(all), api.OK)
	tells(t, d, 0, full('a'))
	tells(t, d, 1, sectors("\x00b\x00\x00"))
	sample.Is(t, "Sync", d.Sync(), api.OK)
	firms(t, d, 1, sectors("\x00b\x00\x00"))

	sample.Is(t, "Write", d.Write(0, full('c')), api.OK)
	sample.Is(t, "Crash", d.Crash(nil), api.OK)
	sample.Is(t, "Write", d.Write(2, full('d')), api.OK)
	counts(t, "behind a Crash", d, 1, 6)
	sample.Is(t, "Crash", d.Crash([]uint8{4, 15}), api.OK)
	tells(t, d, 0, full('a'))
	tells(t, d, 2, sectors("\x00\x00d\x00"))

	d.Fail(1)
	sample.Is(t, "Write that fails", d.Write(3, full('e')), api.ErrIO)
	sample.Is(t, "Write", d.Write(4, full('f')), api.OK)
	sample.Is(t, "Crash", d.Crash([]uint8{1, 15}), api.OK)
	tells(t, d, 3, full(0))
	tells(t, d, 4, sectors("f\x00\x00\x00"))
}

func TestWhatWasSyncedStays(t *testing.T) {
	for _, masks := range [][]uint8{nil, {0}, {15}, {0, 15}, bytes.Repeat([]byte{255}, 20)} {
		d := busy(t)
		sample.Is(t, "Sync", d.Sync(), api.OK)
		sample.Is(t, "Write", d.Write(3, full('q')), api.OK)
		sample.Is(t, "Crash", d.Crash(masks), api.OK)
		for i, x := range []byte{'x', 'w', 0, 'q', 0, 0, 0, 'g'} {
			if i != 3 {
				tells(t, d, i, full(x))
				firms(t, d, i, full(x))
			}
		}
	}
}

func TestFailAndCutAreForgottenBehindACrash(t *testing.T) {
	for fail := range 4 {
		for cut := -1; cut < 4; cut++ {
			d := fresh(t, 8)
			d.Fail(fail)
			d.Cut(cut)
			sample.Is(t, "Crash", d.Crash(nil), api.OK)
			what := fmt.Sprintf("Fail(%d), Cut(%d), Crash", fail, cut)
			power(t, what, d, false)
			goes(t, what, d, run(9)...)
		}
	}
	d := fresh(t, 8)
	goes(t, "a device", d, run(4)...)
	d.Fail(3)
	d.Cut(5)
	goes(t, "Fail(3), Cut(5)", d, run(2, api.ErrIO)...)
	d.Crash(nil)
	counts(t, "Steps behind a Crash", d, 0, 7)
	d.Fail(2)
	d.Cut(3)
	goes(t, "Fail(2), Cut(3) behind a Crash", d, api.OK, api.ErrIO, api.OK, api.ErrDown)
	counts(t, "with the power off", d, d.Waiting(), 10)
	d.Crash(nil)
	counts(t, "Steps behind another Crash", d, 0, 10)
	goes(t, "behind another Crash", d, run(9)...)
}

func TestCrashGoesBehindCrash(t *testing.T) {
	d := off(t)
	sample.Is(t, "Crash", d.Crash(nil), api.OK)
	was := inside(d)
	for range 3 {
		sample.Is(t, "Crash", d.Crash([]uint8{15, 15, 15}), api.OK)
	}
	if got := inside(d); got != was {
		t.Errorf("a Crash behind a Crash has changed the device:\n%s\nwant\n%s", got, was)
	}
	sample.Is(t, "Write", d.Write(1, full('z')), api.OK)
	tells(t, d, 1, full('z'))
	firms(t, d, 1, full('f'))
	counts(t, "behind a Write", d, 1, 6)
}

// P8.6 (Foreign)

func TestForeignAtEdges(t *testing.T) {
	for _, x := range []struct{ at, n int }{
		{0, 0}, {0, 1}, {0, 2}, {0, 255}, {0, 256}, {1, 0}, {1, 254}, {1, 255}, {63, 1}, {63, 2}, {64, 64}, {128, 128},
		{250, 6}, {254, 1}, {254, 2}, {255, 0}, {255, 1}, {256, 0},
	} {
		for _, i := range []int{0, 3, 7} {
			d := fresh(t, 8)
			was := sample.Mingled(1, 256)
			sample.Is(t, "Write", d.Write(i, was), api.OK)
			sample.Is(t, "Sync", d.Sync(), api.OK)
			s := sample.Mingled(2, x.n)
			sample.Is(t, fmt.Sprintf("Foreign(%d, %d, %d bytes)", i, x.at, x.n), d.Foreign(i, x.at, s), api.OK)
			want := laid(was, x.at, string(s))
			tells(t, d, i, want)
			firms(t, d, i, want)
			counts(t, "behind Foreign", d, 0, 2)
			for j := range 8 {
				if j != i {
					tells(t, d, j, full(0))
					firms(t, d, j, full(0))
				}
			}
			sample.Is(t, "Crash", d.Crash(nil), api.OK)
			tells(t, d, i, want)
		}
	}
}

func TestForeignBeyondABlock(t *testing.T) {
	least, greatest := -1<<63, 1<<63-1
	d := busy(t)
	for _, x := range []struct{ at, n int }{
		{0, 257}, {0, 512}, {1, 256}, {2, 255}, {64, 193}, {250, 7}, {255, 2}, {255, 256}, {256, 1}, {256, 256},
		{257, 0}, {257, 1}, {512, 0}, {512, 1}, {-1, 0}, {-1, 1}, {-1, 2}, {-1, 256}, {-256, 256}, {-256, 0},
		{1 << 31, 0}, {1 << 32, 0}, {1 << 32, 1}, {-1 << 32, 1}, {greatest, 0}, {greatest, 1}, {greatest, 2}, {greatest - 255, 256}, {greatest - 1, 2},
		{least, 0}, {least, 1}, {least, 256}, {least + 1, 1}, {least + 256, 0},
	} {
		for _, i := range []int{0, 1, 7} {
			stays(t, fmt.Sprintf("Foreign(%d, %d, %d bytes)", i, x.at, x.n), d, api.ErrArg, func() api.Errno { return d.Foreign(i, x.at, sample.Mingled(1, x.n)) })
		}
	}
	d = off(t)
	stays(t, "Foreign(0, 250, seven bytes), the power off", d, api.ErrArg, func() api.Errno { return d.Foreign(0, 250, make([]byte, 7)) })
	stays(t, "Foreign(8, 0, one byte), the power off", d, api.ErrArg, func() api.Errno { return d.Foreign(8, 0, []byte{1}) })
}

func TestForeignWithThePowerOff(t *testing.T) {
	d := off(t)
	sample.Is(t, "Foreign", d.Foreign(7, 10, []byte("foreign")), api.OK)
	sample.Is(t, "Foreign", d.Foreign(1, 60, []byte("FOREIGN")), api.OK)
	firms(t, d, 7, laid(full('g'), 10, "foreign"))
	firms(t, d, 1, laid(full('f'), 60, "FOREIGN"))
	power(t, "behind Foreign", d, true)
	counts(t, "behind Foreign", d, 2, 5)
	if b, e := d.Read(7); len(b) != 0 || e != api.ErrDown {
		t.Errorf("Read(7) with the power off: %d bytes, %v", len(b), e)
	}
	sample.Is(t, "Crash", d.Crash([]uint8{1}), api.OK)
	tells(t, d, 7, laid(full('g'), 10, "foreign"))
	// The first sector is the one that was written ahead of Foreign; the bytes behind it are Foreign's.
	tells(t, d, 1, laid(sectors("wfff"), 64, "IGN"))
}

func TestForeignIsNoStep(t *testing.T) {
	d := fresh(t, 8)
	d.Fail(1)
	d.Cut(1)
	for range 5 {
		sample.Is(t, "Foreign", d.Foreign(0, 0, full('a')), api.OK)
	}
	counts(t, "behind Foreign", d, 0, 0)
	goes(t, "behind Foreign", d, api.ErrIO, api.ErrDown)
}

func TestWhatWaitsStaysAsItWasWritten(t *testing.T) {
	for mask := range uint8(16) {
		d := fresh(t, 8)
		sample.Is(t, "Write", d.Write(2, full('w')), api.OK)
		sample.Is(t, "Foreign", d.Foreign(2, 32, full('f')[:128]), api.OK)
		f := string(full('f')[:128])
		tells(t, d, 2, laid(full('w'), 32, f))
		firms(t, d, 2, laid(full(0), 32, f))
		counts(t, "behind Foreign", d, 1, 1)
		sample.Is(t, "Crash", d.Crash([]uint8{mask}), api.OK)
		tells(t, d, 2, mixed(laid(full(0), 32, f), 'w', mask))
	}
}

func TestSyncBehindForeign(t *testing.T) {
	d := fresh(t, 8)
	sample.Is(t, "Write", d.Write(2, full('w')), api.OK)
	sample.Is(t, "Foreign", d.Foreign(2, 250, []byte("end")), api.OK)
	sample.Is(t, "Foreign", d.Foreign(3, 0, []byte("start")), api.OK)
	sample.Is(t, "Sync", d.Sync(), api.OK)
	firms(t, d, 2, laid(full('w'), 250, "end"))
	firms(t, d, 3, laid(full(0), 0, "start"))
	sample.Is(t, "Write", d.Write(2, full('v')), api.OK)
	tells(t, d, 2, full('v'))
	firms(t, d, 2, laid(full('w'), 250, "end"))
	sample.Is(t, "Crash", d.Crash([]uint8{0}), api.OK)
	tells(t, d, 2, laid(full('w'), 250, "end"))
}

// P8.6 (Firm, Waiting)

func TestFirmAndWaitingGoOn(t *testing.T) {
	d := fresh(t, 8)
	for k := range 296 {
		sample.Is(t, "Write", d.Write(k%8, full(byte(k))), api.OK)
		if d.Waiting() != k+1 {
			t.Fatalf("behind %d writes %d wait", k+1, d.Waiting())
		}
		firms(t, d, k%8, full(0))
	}
	sample.Is(t, "Step", d.Step(), api.OK)
	if d.Waiting() != 296 {
		t.Errorf("behind a Step %d wait; want 296", d.Waiting())
	}
	sample.Is(t, "Sync", d.Sync(), api.OK)
	counts(t, "behind a Sync", d, 0, 298)
	for i := range 8 {
		firms(t, d, i, full(byte(288+i)))
	}
}

// P8.6 (Fork)

// ready is a device with writes that wait, a Fail and a Cut.
func ready(t *testing.T) *disk.Disk {
	t.Helper()
	d := busy(t)
	d.Fail(3)
	d.Cut(5)
	sample.Is(t, "Step", d.Step(), api.OK)
	return d
}

func TestForkIsJustSo(t *testing.T) {
	for _, x := range []struct {
		name string
		of   func(t *testing.T) *disk.Disk
	}{
		{"a new one", func(t *testing.T) *disk.Disk { return fresh(t, 8) }},
		{"a busy one", busy}, {"a ready one", ready}, {"one whose power is off", off},
	} {
		d := x.of(t)
		f := d.Fork()
		if f == nil || f == d {
			t.Fatalf("the Fork of %s is none, or the same", x.name)
		}
		if got, want := inside(f), inside(x.of(t)); got != want {
			t.Errorf("the Fork of %s is another one:\n%s\nwant\n%s", x.name, got, want)
		}
		if got, want := inside(d), inside(x.of(t)); got != want {
			t.Errorf("%s is another one behind its Fork:\n%s\nwant\n%s", x.name, got, want)
		}
	}
}

func TestForkKnowsWhatIsTold(t *testing.T) {
	f := ready(t).Fork()
	counts(t, "a Fork", f, 2, 6)
	goes(t, "a Fork behind Fail(3), Cut(5) and a step", f, api.OK, api.ErrIO, api.OK, api.OK, api.ErrDown)
	f = off(t).Fork()
	power(t, "the Fork of one whose power is off", f, true)
	firms(t, f, 1, full('f'))
	sample.Is(t, "Crash", f.Crash([]uint8{3, 12}), api.OK)
	tells(t, f, 1, sectors("wwff"))
	tells(t, f, 0, sectors("\x00\x00xx"))
	tells(t, f, 7, full('g'))
}

// deeds is what may be done to a device.
func deeds() map[string]func(d *disk.Disk) {
	return map[string]func(d *disk.Disk){
		"Write":       func(d *disk.Disk) { d.Write(1, full('1')) },
		"two Writes":  func(d *disk.Disk) { d.Write(1, full('1')); d.Write(5, full('5')) },
		"Sync":        func(d *disk.Disk) { d.Sync() },
		"Write, Sync": func(d *disk.Disk) { d.Write(1, full('1')); d.Sync() },
		"Sync, Write": func(d *disk.Disk) { d.Sync(); d.Write(3, full('3')) },
		"Step":        func(d *disk.Disk) { d.Step() },
		"Fail":        func(d *disk.Disk) { d.Fail(1) },
		"no Fail":     func(d *disk.Disk) { d.Fail(0) },
		"Cut":         func(d *disk.Disk) { d.Cut(0) },
		"no Cut":      func(d *disk.Disk) { d.Cut(-1) },
		"power off":   func(d *disk.Disk) { d.Cut(0); d.Step() },
		"Crash":       func(d *disk.Disk) { d.Crash(nil) },
		"Crash all":   func(d *disk.Disk) { d.Crash([]uint8{15, 15, 15}) },
		"Foreign":     func(d *disk.Disk) { d.Foreign(1, 0, full('!')); d.Foreign(4, 9, full('?')[9:]) },
		"Fork":        func(d *disk.Disk) { d.Fork().Write(1, full('/')) },
		"Crash, then writes": func(d *disk.Disk) {
			d.Crash(nil)
			for i := range 8 {
				d.Write(i, full(byte(i)))
			}
		},
	}
}

func TestForksAreApart(t *testing.T) {
	for name, deed := range deeds() {
		for _, of := range []func(t *testing.T) *disk.Disk{busy, ready, off} {
			d := of(t)
			f := d.Fork()
			was := inside(f)
			deed(d)
			if got := inside(f); got != was {
				t.Errorf("a Fork knows of %s of its first one:\n%s\nwant\n%s", name, got, was)
			}
			d = of(t)
			f = d.Fork()
			deed(f)
			if got := inside(d); got != was {
				t.Errorf("a device knows of %s of its Fork:\n%s\nwant\n%s", name, got, was)
			}
		}
	}
}

func TestForksWriteApart(t *testing.T) {
	// As many writes as there are, so that at some of these counts a list has room left, and at some none.
	for waiting := range 20 {
		d := fresh(t, 32)
		for k := range waiting {
			sample.Is(t, "Write", d.Write(k, full('o')), api.OK)
		}
		one, two := d.Fork(), d.Fork()
		sample.Is(t, "Write", d.Write(20, full('d')), api.OK)
		sample.Is(t, "Write", one.Write(21, full('1')), api.OK)
		sample.Is(t, "Write", two.Write(22, full('2')), api.OK)
		for _, x := range []struct {
			d  *disk.Disk
			at int
			x  byte
		}{{d, 20, 'd'}, {one, 21, '1'}, {two, 22, '2'}} {
			sample.Is(t, "Crash", x.d.Crash(bytes.Repeat([]byte{15}, 20)), api.OK)
			for i := range 32 {
				want := full(0)
				if i < waiting {
					want = full('o')
				}
				if i == x.at {
					want = full(x.x)
				}
				tells(t, x.d, i, want)
			}
		}
	}
}
