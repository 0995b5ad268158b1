package pack_test

import (
	"bytes"
	"encoding/binary"
	"fmt"
	"math"
	"slices"
	"strings"
	"testing"

	"donjon/api"
	"donjon/pack"
	"donjon/sample"
)

// edges is the numbers at the ends of each count of groups, and about them.
func edges() []uint64 {
	list := []uint64{0, 1, 2, 126, math.MaxUint64 - 1, math.MaxUint64}
	for k := 1; k <= 9; k++ {
		past := uint64(1) << (7 * k)
		list = append(list, past-2, past-1, past, past+1)
	}
	return list
}

// fronts and behinds is what stands about a thing that is read: nothing, one byte, more.
var (
	fronts  = []string{"", "\x00", "\x80", "\x01a", "\xff\xff\x7f\x00", strings.Repeat("\x80", 10), strings.Repeat("z", 200)}
	behinds = []string{"", "\x00", "\x01", "\x80", "\xff", "\x80\x00", "\x01\x02\x03", strings.Repeat("\xff", 10), strings.Repeat("\x00", 200)}
)

// moved is a reader of b that stands at the place at, without a fault.
func moved(t *testing.T, b string, at int) *pack.Reader {
	t.Helper()
	r := pack.NewReader([]byte(b))
	for i := range at {
		if x := r.Byte(); x != b[i] {
			t.Fatalf("Byte at %d of %x = %x", i, b, x)
		}
	}
	return r
}

// stands holds it that the reader tells so many bytes left, and done so, twice.
func stands(t *testing.T, what string, r *pack.Reader, left int, want api.Errno, at int) {
	t.Helper()
	for range 2 {
		if n := r.Left(); n != left {
			t.Errorf("%s: Left = %d; want %d", what, n, left)
		}
		if e, got := r.Done(); e != want || got != at {
			t.Errorf("%s: Done = %v, %d; want %v, %d", what, e, got, want, at)
		}
	}
}

// silent holds it that the reader reads nothing, whatever it is asked for.
func silent(t *testing.T, what string, r *pack.Reader) {
	t.Helper()
	if n := r.Num(); n != 0 {
		t.Errorf("%s: Num = %d", what, n)
	}
	if x := r.Byte(); x != 0 {
		t.Errorf("%s: Byte = %d", what, x)
	}
	for _, most := range []int{math.MinInt, -1, 0, 1, 100, math.MaxInt} {
		if b := r.Text(most); len(b) != 0 {
			t.Errorf("%s: Text(%d) = %x", what, most, b)
		}
	}
}

// A call is one of a reader's, and whether its answer is its zero value.
type call struct {
	name string
	of   func(r *pack.Reader) bool
}

func num() call {
	return call{"Num", func(r *pack.Reader) bool { return r.Num() == 0 }}
}

func text(most int) call {
	return call{"Text", func(r *pack.Reader) bool { return len(r.Text(most)) == 0 }}
}

func one() call {
	return call{"Byte", func(r *pack.Reader) bool { return r.Byte() == 0 }}
}

// faulty holds it that the call finds the fault where b stands, and that it stays.
func faulty(t *testing.T, c call, front, b, behind string, want api.Errno) {
	t.Helper()
	what := fmt.Sprintf("%s of %x, behind %x and ahead of %x", c.name, b, front, behind)
	r := moved(t, front+b+behind, len(front))
	left := len(b) + len(behind)
	if !c.of(r) {
		t.Errorf("%s answers something beside its fault", what)
	}
	stands(t, what, r, left, want, len(front))
	for range 2 {
		silent(t, what+", then", r)
		stands(t, what+", then others", r, left, want, len(front))
	}
}

// first is the number that b begins with and its size, or its fault, by the chapter's words.
func first(b []byte) (n uint64, size int, e api.Errno) {
	last := slices.IndexFunc(b, func(x byte) bool { return x < 128 })
	if len(b) >= 10 && (last < 0 || last >= 9) && b[9] > 1 {
		return 0, 0, api.ErrRange
	}
	if last < 0 {
		return 0, 0, api.ErrShort
	}
	if last > 0 && b[last] == 0 {
		return 0, 0, api.ErrForm
	}
	for i := last; i >= 0; i-- {
		n = n*128 + uint64(b[i]%128)
	}
	return n, last + 1, api.OK
}

// The chapter's examples

func TestExamples(t *testing.T) {
	for _, x := range []struct {
		n    uint64
		want string
	}{
		{0, "\x00"}, {127, "\x7f"}, {128, "\x80\x01"}, {1<<64 - 1, "\xff\xff\xff\xff\xff\xff\xff\xff\xff\x01"},
	} {
		if b := pack.Num(x.n); string(b) != x.want {
			t.Errorf("Num(%d) = %x; want %x", x.n, b, x.want)
		}
	}
	if b := pack.Text([]byte("ab")); string(b) != "\x02\x61\x62" {
		t.Errorf("Text(ab) = %x", b)
	}
	faulty(t, num(), "", "\x80\x00", "", api.ErrForm)
	faulty(t, num(), "", strings.Repeat("\xff", 9)+"\x02", "", api.ErrRange)
	faulty(t, num(), "", strings.Repeat("\x80", 9)+"\x02", "", api.ErrRange)

	r := pack.NewReader([]byte{5, 0x61})
	if x := r.Byte(); x != 5 {
		t.Errorf("Byte of 05 61 = %d", x)
	}
	if b := r.Text(99); len(b) != 0 {
		t.Errorf("Text(99) of 61 = %x", b)
	}
	stands(t, "05 61", r, 1, api.ErrShort, 1)

	faulty(t, text(1), "", "\x02\x61\x62", "\x07", api.ErrLong)
	r = pack.NewReader([]byte{2, 0x61, 0x62, 7})
	if b := r.Text(2); string(b) != "ab" {
		t.Errorf("Text(2) of 02 61 62 07 = %x", b)
	}
	stands(t, "02 61 62 07", r, 1, api.ErrForm, 3)
}

// P7.1 (Num, Text, NewReader)

func TestNumAtTheEdges(t *testing.T) {
	for k := 1; k <= 9; k++ {
		past := uint64(1) << (7 * k)
		if b, want := pack.Num(past-1), strings.Repeat("\xff", k-1)+"\x7f"; string(b) != want {
			t.Errorf("Num(2^%d - 1) = %x; want %x", 7*k, b, want)
		}
		if b, want := pack.Num(past), strings.Repeat("\x80", k)+"\x01"; string(b) != want {
			t.Errorf("Num(2^%d) = %x; want %x", 7*k, b, want)
		}
	}
	for _, x := range []struct {
		n    uint64
		want string
	}{
		{1, "\x01"},
		{300, "\xac\x02"},
		{16383, "\xff\x7f"},
		{16384, "\x80\x80\x01"},
		{1<<63 - 1, "\xff\xff\xff\xff\xff\xff\xff\xff\x7f"},
		{1 << 63, "\x80\x80\x80\x80\x80\x80\x80\x80\x80\x01"},
		{1<<64 - 2, "\xfe\xff\xff\xff\xff\xff\xff\xff\xff\x01"},
		{1 | 2<<7 | 3<<14 | 4<<21, "\x81\x82\x83\x04"},
	} {
		if b := pack.Num(x.n); string(b) != x.want {
			t.Errorf("Num(%d) = %x; want %x", x.n, b, x.want)
		}
	}
}

// numbers is the edges, each bit alone and each run of bits, and others of no order.
func numbers() []uint64 {
	list := edges()
	for low := range 64 {
		for high := low; high < 64; high++ {
			list = append(list, (math.MaxUint64>>(63-high))&^(1<<low-1), 1<<high|1<<low)
		}
	}
	for i := range uint32(2000) {
		list = append(list, binary.BigEndian.Uint64(sample.Mingled(i, 8))>>(i%64))
	}
	return list
}

func TestNumIsWhatOthersTell(t *testing.T) {
	for _, n := range numbers() {
		if b, want := pack.Num(n), binary.AppendUvarint(nil, n); !bytes.Equal(b, want) {
			t.Errorf("Num(%d) = %x; want %x", n, b, want)
		}
	}
	for n := range uint64(40000) {
		if b, want := pack.Num(n), binary.AppendUvarint(nil, n); !bytes.Equal(b, want) {
			t.Fatalf("Num(%d) = %x; want %x", n, b, want)
		}
	}
}

// sizes is lengths of texts, about the ends of each count of groups of theirs.
var sizes = []int{0, 1, 2, 3, 126, 127, 128, 129, 255, 256, 16382, 16383, 16384, 16385, 65536, 2097151, 2097152}

func TestTextIsItsLengthAndItself(t *testing.T) {
	for _, n := range sizes {
		for _, s := range [][]byte{sample.Mingled(1, n), make([]byte, n), bytes.Repeat([]byte{0xff}, n)} {
			want := append(binary.AppendUvarint(nil, uint64(n)), s...)
			if b := pack.Text(s); !bytes.Equal(b, want) {
				t.Errorf("Text of %d bytes tells something else, of %d bytes", n, len(b))
			}
		}
	}
	for x := range 256 {
		if b := pack.Text([]byte{byte(x)}); !bytes.Equal(b, []byte{1, byte(x)}) {
			t.Errorf("Text(%02x) = %x", x, b)
		}
	}
}

func TestAReaderBeginsAtNoughtWithoutAFault(t *testing.T) {
	stands(t, "no bytes", pack.NewReader(nil), 0, api.OK, 0)
	stands(t, "no bytes", pack.NewReader([]byte{}), 0, api.OK, 0)
	for _, n := range []int{1, 2, 10, 255, 65537} {
		// What stands there is not looked at ahead of being read.
		for _, b := range [][]byte{make([]byte, n), bytes.Repeat([]byte{0x80}, n), bytes.Repeat([]byte{0xff}, n)} {
			r := pack.NewReader(b)
			stands(t, "a new one", r, n, api.ErrForm, 0)
			if x := r.Byte(); x != b[0] {
				t.Errorf("the first byte of %d is told as %02x; want %02x", n, x, b[0])
			}
		}
	}
}

// P7.2 (reading and its faults)

func TestNumReadsWhatWasWritten(t *testing.T) {
	for _, n := range numbers() {
		b := string(pack.Num(n))
		for _, front := range fronts {
			for _, behind := range behinds {
				r := moved(t, front+b+behind, len(front))
				if got := r.Num(); got != n {
					t.Fatalf("Num of %x = %d; want %d", b, got, n)
				}
				e := api.ErrForm
				if behind == "" {
					e = api.OK
				}
				stands(t, fmt.Sprintf("the number %x", b), r, len(behind), e, len(front)+len(b))
			}
		}
	}
}

func TestNumOfBytesThatEnd(t *testing.T) {
	for _, n := range edges() {
		b := string(pack.Num(n))
		for size := range len(b) {
			for _, front := range fronts {
				faulty(t, num(), front, b[:size], "", api.ErrShort)
			}
		}
	}
	for size := range 10 {
		for _, x := range []string{"\x80", "\x81", "\xff"} {
			for _, front := range fronts {
				faulty(t, num(), front, strings.Repeat(x, size), "", api.ErrShort)
				faulty(t, text(math.MaxInt), front, strings.Repeat(x, size), "", api.ErrShort)
			}
		}
	}
}

// nines is nine bytes each, behind which a tenth group stands.
var nines = []string{strings.Repeat("\x80", 9), strings.Repeat("\xff", 9), "\x81\x82\x83\x84\x85\x86\x87\x88\x89", strings.Repeat("\x80", 8) + "\xff"}

func TestNumOfATenthByte(t *testing.T) {
	for _, nine := range nines {
		for x := 2; x < 256; x++ {
			for _, behind := range behinds {
				faulty(t, num(), "", nine+string([]byte{byte(x)}), behind, api.ErrRange)
			}
		}
		for _, x := range []string{"\x02", "\x7f", "\x80", "\xff"} {
			for _, front := range fronts {
				for _, behind := range behinds {
					faulty(t, num(), front, nine+x, behind, api.ErrRange)
					faulty(t, text(math.MaxInt), front, nine+x, behind, api.ErrRange)
				}
			}
		}
		want, _, _ := first([]byte(nine + "\x01"))
		r := pack.NewReader([]byte(nine + "\x01"))
		if n := r.Num(); n != want || n < 1<<63 {
			t.Errorf("Num of %x 01 = %d; want %d", nine, n, want)
		}
		stands(t, fmt.Sprintf("%x 01", nine), r, 0, api.OK, 10)
	}
}

func TestNumOfALastGroupOfNought(t *testing.T) {
	for count := 2; count <= 10; count++ {
		for _, x := range []string{"\x80", "\xff", "\x81"} {
			b := strings.Repeat(x, count-1) + "\x00"
			for _, front := range fronts {
				for _, behind := range behinds {
					faulty(t, num(), front, b, behind, api.ErrForm)
					faulty(t, text(math.MaxInt), front, b, behind, api.ErrForm)
				}
			}
		}
	}
	r := pack.NewReader([]byte{0})
	if n := r.Num(); n != 0 {
		t.Errorf("Num of 00 = %d", n)
	}
	stands(t, "00", r, 0, api.OK, 1)
}

// heldNum holds it that Num of b is as the chapter's words tell, and that what it reads is written so.
func heldNum(t *testing.T, b []byte) {
	t.Helper()
	want, size, fault := first(b)
	r := pack.NewReader(b)
	n := r.Num()
	e, at := r.Done()
	if fault == api.OK && size < len(b) {
		fault = api.ErrForm
	}
	if n != want || e != fault || at != size || r.Left() != len(b)-size {
		t.Fatalf("Num of %x = %d, then %v at %d with %d left; want %d, %v at %d", b, n, e, at, r.Left(), want, fault, size)
	}
	if size > 0 && !bytes.Equal(pack.Num(n), b[:size]) {
		t.Fatalf("%x was read as %d, which is written as %x", b[:size], n, pack.Num(n))
	}
}

func TestNumOfAllShortBytes(t *testing.T) {
	heldNum(t, nil)
	for x := range 256 {
		heldNum(t, []byte{byte(x)})
		for y := range 256 {
			heldNum(t, []byte{byte(x), byte(y)})
			for _, z := range []byte{0, 1, 2, 127, 128, 129, 255} {
				heldNum(t, []byte{byte(x), byte(y), z})
			}
		}
	}
}

func TestNumOfAllBytesOfAFew(t *testing.T) {
	of := []byte{0, 1, 2, 0x7f, 0x80, 0xff}
	for size := range 13 {
		for i := range 3000 {
			b := make([]byte, size)
			for j, x := range sample.Mingled(uint32(3000*size+i), size) {
				b[j] = of[4+x%2]
				// The bytes that end a number are rare, so that long ones come.
				if x>>1%8 == 0 {
					b[j] = of[x>>4%6]
				}
			}
			heldNum(t, b)
		}
	}
}

func TestByteReadsEachByte(t *testing.T) {
	all := make([]byte, 256)
	for i := range all {
		all[i] = byte(i)
	}
	r := pack.NewReader(all)
	for i, want := range all {
		stands(t, "all bytes", r, 256-i, api.ErrForm, i)
		if x := r.Byte(); x != want {
			t.Errorf("Byte at %d = %d", i, x)
		}
	}
	stands(t, "all bytes, at their end", r, 0, api.OK, 256)
}

func TestByteOfAnEnd(t *testing.T) {
	for _, front := range fronts {
		faulty(t, one(), front, "", "", api.ErrShort)
		faulty(t, num(), front, "", "", api.ErrShort)
		faulty(t, text(0), front, "", "", api.ErrShort)
		faulty(t, text(math.MaxInt), front, "", "", api.ErrShort)
	}
}

// mosts is what a text of n bytes may be asked with.
func mosts(n int) []int {
	return []int{math.MinInt, math.MinInt32, -2, -1, 0, n - 1, n, n + 1, 2*n + 7, math.MaxInt32, math.MaxInt - 1, math.MaxInt}
}

func TestTextOfEachMost(t *testing.T) {
	for _, n := range []int{0, 1, 2, 5, 127, 128, 300, 16384} {
		s := sample.Mingled(2, n)
		b := string(pack.Text(s))
		for _, most := range mosts(n) {
			for _, front := range fronts {
				for _, behind := range []string{"", "\x00", "\xff\x80\x00"} {
					if n > max(most, 0) {
						faulty(t, text(most), front, b, behind, api.ErrLong)
						continue
					}
					r := moved(t, front+b+behind, len(front))
					if got := r.Text(most); !bytes.Equal(got, s) {
						t.Errorf("Text(%d) of a text of %d bytes = %d bytes", most, n, len(got))
					}
					e := api.ErrForm
					if behind == "" {
						e = api.OK
					}
					stands(t, "a text", r, len(behind), e, len(front)+len(b))
				}
			}
		}
	}
}

func TestTextOfTooFewBytes(t *testing.T) {
	for _, n := range []int{1, 2, 5, 127, 128, 300} {
		b := string(pack.Text(sample.Mingled(3, n)))
		head := len(b) - n
		for size := range n {
			for _, most := range mosts(n) {
				want := api.ErrShort
				if n > max(most, 0) {
					want = api.ErrLong
				}
				faulty(t, text(most), "", b[:head+size], "", want)
				faulty(t, text(most), "\x02\x80", b[:head+size], "", want)
			}
		}
	}
}

func TestTextOfAGreatLength(t *testing.T) {
	for _, n := range []uint64{1 << 63, 1<<63 + 1, 1<<64 - 2, 1<<64 - 1} {
		b := string(pack.Num(n))
		for _, most := range mosts(9) {
			for _, front := range fronts {
				for _, behind := range behinds {
					faulty(t, text(most), front, b, behind, api.ErrLong)
				}
			}
		}
	}
	for _, n := range []int{math.MaxInt32, math.MaxInt / 2, math.MaxInt/2 + 2, math.MaxInt - 1, math.MaxInt} {
		b := string(pack.Num(uint64(n)))
		for _, front := range fronts {
			for _, behind := range behinds {
				faulty(t, text(n), front, b, behind, api.ErrShort)
				faulty(t, text(math.MaxInt), front, b, behind, api.ErrShort)
				faulty(t, text(n-1), front, b, behind, api.ErrLong)
			}
		}
	}
}

func TestWhichFaultOfATextComesFirst(t *testing.T) {
	for _, x := range []struct {
		b    string
		most int
		want api.Errno
	}{
		// The length's own fault, though what it tells so far is more than may be, and nothing stands behind it.
		{"", -1, api.ErrShort},
		{"\xff", 0, api.ErrShort},
		{"\xff\xff\xff", 5, api.ErrShort},
		{"\xff\x00", 0, api.ErrForm},
		{"\xff\x00", 126, api.ErrForm},
		{"\x80\x00", -1, api.ErrForm},
		{"\x80\x00", 0, api.ErrForm},
		{strings.Repeat("\xff", 9) + "\x00", 0, api.ErrForm},
		{strings.Repeat("\xff", 9) + "\x02", 0, api.ErrRange},
		{strings.Repeat("\x80", 10), -1, api.ErrRange},
		{strings.Repeat("\x80", 9) + "\x80\x00", 0, api.ErrRange},
		// A length that is more than may be, though the bytes end.
		{"\x01", 0, api.ErrLong},
		{"\x01", -1, api.ErrLong},
		{"\x61", 96, api.ErrLong},
		{"\x61", 97, api.ErrShort},
		{"\xff\xff\xff\xff\xff\xff\xff\xff\xff\x01", math.MaxInt, api.ErrLong},
		{string(pack.Num(math.MaxInt)), math.MaxInt, api.ErrShort},
		{string(pack.Num(math.MaxInt)), math.MaxInt - 1, api.ErrLong},
	} {
		for _, front := range fronts {
			faulty(t, text(x.most), front, x.b, "", x.want)
		}
	}
}

func TestTheFirstFaultStays(t *testing.T) {
	whole := "\x01a" + "\x80\x00" + "\x05" + "\x02bc"
	r := moved(t, whole, 0)
	if b := r.Text(1); string(b) != "a" {
		t.Fatalf("Text(1) = %x", b)
	}
	if n := r.Num(); n != 0 {
		t.Fatalf("Num of 80 00 = %d", n)
	}
	// The bytes at the place could be read one by one, but are not.
	for range 10 {
		silent(t, "behind a fault", r)
		stands(t, "behind a fault", r, 6, api.ErrForm, 2)
	}
	r = pack.NewReader([]byte("\x03a"))
	if b := r.Text(2); len(b) != 0 {
		t.Fatalf("Text(2) = %x", b)
	}
	// A greater most would have another fault.
	r.Text(3)
	stands(t, "behind ErrLong", r, 2, api.ErrLong, 0)
	r = pack.NewReader(nil)
	if x := r.Byte(); x != 0 {
		t.Fatalf("Byte of none = %d", x)
	}
	silent(t, "of none", r)
	stands(t, "of none", r, 0, api.ErrShort, 0)
}

// P7.3 (Left, Done)

func TestLeftAndDoneBehindEachCall(t *testing.T) {
	r := pack.NewReader([]byte("\x07" + "\x80\x01" + "\x00" + "\x02ab" + "\x00" + "\xff\x7f"))
	stands(t, "at first", r, 10, api.ErrForm, 0)
	if x := r.Byte(); x != 7 {
		t.Errorf("Byte = %d", x)
	}
	stands(t, "behind a byte", r, 9, api.ErrForm, 1)
	if n := r.Num(); n != 128 {
		t.Errorf("Num = %d", n)
	}
	stands(t, "behind a number of two bytes", r, 7, api.ErrForm, 3)
	if b := r.Text(0); len(b) != 0 {
		t.Errorf("Text(0) = %x", b)
	}
	stands(t, "behind a text of none", r, 6, api.ErrForm, 4)
	if b := r.Text(9); string(b) != "ab" {
		t.Errorf("Text(9) = %x", b)
	}
	stands(t, "behind a text", r, 3, api.ErrForm, 7)
	if n := r.Num(); n != 0 {
		t.Errorf("Num = %d", n)
	}
	stands(t, "behind a number of one byte", r, 2, api.ErrForm, 8)
	if n := r.Num(); n != 16383 {
		t.Errorf("Num = %d", n)
	}
	stands(t, "at the end", r, 0, api.OK, 10)
	if n := r.Num(); n != 0 {
		t.Errorf("Num of the end = %d", n)
	}
	stands(t, "behind the end", r, 0, api.ErrShort, 10)
}

func TestDoneWithAByteLeftIsNoFault(t *testing.T) {
	for n := range 12 {
		b := sample.Mingled(4, n)
		r := pack.NewReader(b)
		for i, want := range b {
			for range 3 {
				if e, at := r.Done(); e != api.ErrForm || at != i {
					t.Errorf("Done at %d of %d = %v, %d", i, n, e, at)
				}
			}
			if x := r.Byte(); x != want {
				t.Errorf("Byte at %d of %d, behind Done, = %d; want %d", i, n, x, want)
			}
		}
		stands(t, "behind all", r, 0, api.OK, n)
	}
}

func TestDoneOfTheEndIsNoFault(t *testing.T) {
	r := pack.NewReader([]byte("\x01"))
	r.Num()
	stands(t, "the end", r, 0, api.OK, 1)
	if b := r.Text(5); len(b) != 0 {
		t.Errorf("Text of the end = %x", b)
	}
	stands(t, "behind the end", r, 0, api.ErrShort, 1)
}

func TestAReaderThatIsNotThere(t *testing.T) {
	var r *pack.Reader
	for range 2 {
		silent(t, "no reader", r)
		stands(t, "no reader", r, 0, api.ErrNil, 0)
	}
}

// What follows

func TestWhatWasWrittenIsRead(t *testing.T) {
	var all []byte
	list := edges()
	for i, n := range list {
		all = slices.Concat(all, pack.Num(n), pack.Text(sample.Mingled(uint32(i), 11*i)), []byte{byte(i)})
	}
	r := pack.NewReader(all)
	for i, n := range list {
		if got := r.Num(); got != n {
			t.Fatalf("Num = %d; want %d", got, n)
		}
		if b := r.Text(11 * i); !bytes.Equal(b, sample.Mingled(uint32(i), 11*i)) {
			t.Fatalf("Text(%d) = %x", 11*i, b)
		}
		if x := r.Byte(); x != byte(i) {
			t.Fatalf("Byte = %d; want %d", x, i)
		}
	}
	stands(t, "all", r, 0, api.OK, len(all))
	for _, n := range sizes {
		s := sample.Mingled(5, n)
		b := pack.Text(s)
		r := pack.NewReader(b)
		if got := r.Text(n); !bytes.Equal(got, s) {
			t.Errorf("a text of %d bytes is read as one of %d", n, len(got))
		}
		stands(t, "a text", r, 0, api.OK, len(b))
	}
}

// A model reads as the chapter's words say.
type model struct {
	b     []byte
	at    int
	fault api.Errno
}

func (m *model) pass(size int, e api.Errno) bool {
	m.at, m.fault = m.at+size, e
	return e == api.OK
}

func (m *model) num() uint64 {
	if m.fault != api.OK {
		return 0
	}
	n, size, e := first(m.b[m.at:])
	m.pass(size, e)
	return n
}

func (m *model) text(most int) []byte {
	if m.fault != api.OK {
		return nil
	}
	n, size, e := first(m.b[m.at:])
	left := len(m.b) - m.at - size
	switch {
	case e != api.OK:
	case most < 0 && n > 0, most >= 0 && n > uint64(most):
		e = api.ErrLong
	case n > uint64(left):
		e = api.ErrShort
	}
	if e != api.OK {
		m.pass(0, e)
		return nil
	}
	m.pass(size+int(n), api.OK)
	return m.b[m.at-int(n) : m.at]
}

func (m *model) byte() byte {
	switch {
	case m.fault != api.OK:
		return 0
	case m.at == len(m.b):
		m.fault = api.ErrShort
		return 0
	}
	m.at++
	return m.b[m.at-1]
}

func (m *model) done() (api.Errno, int) {
	if m.fault == api.OK && m.at < len(m.b) {
		return api.ErrForm, m.at
	}
	return m.fault, m.at
}

func TestReadingAsTheWordsSay(t *testing.T) {
	for i := range uint32(20000) {
		b := sample.Mingled(i, int(i%40))
		for j, x := range b {
			// Small numbers, so that texts come to their ends.
			if x%4 != 0 {
				b[j] = x >> 4 % 16
			}
		}
		r, m := pack.NewReader(b), &model{b: b}
		for _, x := range sample.Mingled(^i, 30) {
			what := "Byte"
			var same bool
			switch most := int(x>>2) - 8; x >> 3 % 3 {
			case 0:
				what, same = "Num", r.Num() == m.num()
			case 1:
				what, same = "Text", bytes.Equal(r.Text(most), m.text(most))
			default:
				same = r.Byte() == m.byte()
			}
			e, at := r.Done()
			wantE, wantAt := m.done()
			if !same || e != wantE || at != wantAt || r.Left() != len(b)-wantAt {
				t.Fatalf("%s of %x: the answer is right: %v; then %v at %d with %d left; want %v at %d", what, b, same, e, at, r.Left(), wantE, wantAt)
			}
		}
	}
}

// R3, R4, R5

func TestNilAndEmptyAreOne(t *testing.T) {
	room := sample.Mingled(6, 8)
	for _, none := range [][]byte{nil, {}, room[:0], room[8:]} {
		if b := pack.Text(none); !bytes.Equal(b, []byte{0}) {
			t.Errorf("Text of none = %x", b)
		}
		r := pack.NewReader(none)
		stands(t, "none", r, 0, api.OK, 0)
		if b := r.Text(9); len(b) != 0 {
			t.Errorf("Text(9) of none = %x", b)
		}
		stands(t, "none", r, 0, api.ErrShort, 0)
	}
}

func TestWhatIsHandedInStays(t *testing.T) {
	for _, n := range []int{0, 1, 5, 127, 128, 300} {
		room := sample.Mingled(7, n+40)
		copy(room[10:], pack.Text(sample.Mingled(8, n)))
		was := bytes.Clone(room)
		if b := pack.Text(room[10 : 10+n]); !bytes.Equal(b[len(b)-n:], was[10:10+n]) {
			t.Errorf("Text of %d bytes in the midst of others = %x", n, b)
		}
		r := pack.NewReader(room[10 : 12+n])
		r.Text(n)
		r.Num()
		r.Byte()
		r.Left()
		r.Done()
		if !bytes.Equal(room, was) {
			t.Errorf("a call changed the room about %d bytes", n)
		}
	}
}

func TestWhatLiesBesideCountsNothing(t *testing.T) {
	room := []byte("\x02ab\x80\x01\x05")
	r := pack.NewReader(room[:2])
	if b := r.Text(2); len(b) != 0 {
		t.Errorf("Text(2) of 02 61 = %x", b)
	}
	stands(t, "02 61", r, 2, api.ErrShort, 0)
	r = pack.NewReader(room[3:4])
	if n := r.Num(); n != 0 {
		t.Errorf("Num of 80 = %d", n)
	}
	stands(t, "80", r, 1, api.ErrShort, 0)
	r = pack.NewReader(room[:0])
	if x := r.Byte(); x != 0 {
		t.Errorf("Byte of none = %d", x)
	}
	stands(t, "none", r, 0, api.ErrShort, 0)
}

func TestAReaderReadsACopy(t *testing.T) {
	s := sample.Mingled(9, 200)
	b := slices.Concat(pack.Text(s), []byte{7}, pack.Num(1<<40))
	want := len(b)
	r := pack.NewReader(b)
	for i := range b {
		b[i] = 0x80
	}
	if got := r.Text(200); !bytes.Equal(got, s) {
		t.Errorf("Text = %x; want %x", got, s)
	}
	clear(b)
	if x := r.Byte(); x != 7 {
		t.Errorf("Byte = %d; want 7", x)
	}
	if n := r.Num(); n != 1<<40 {
		t.Errorf("Num = %d; want 2^40", n)
	}
	stands(t, "a copy", r, 0, api.OK, want)
}

func TestAnswersAreNewMemory(t *testing.T) {
	for _, n := range []uint64{0, 1, 127, 128, 1 << 63} {
		one, two := pack.Num(n), pack.Num(n)
		want := bytes.Clone(two)
		sample.Wreck(one)
		if !bytes.Equal(two, want) || !bytes.Equal(pack.Num(n), want) {
			t.Errorf("two answers of Num(%d) share memory", n)
		}
	}
	for _, n := range []int{0, 1, 5, 127, 128, 300} {
		s := sample.Mingled(10, n)
		was := bytes.Clone(s)
		one, two := pack.Text(s), pack.Text(s)
		want := bytes.Clone(two)
		sample.Wreck(one)
		if !bytes.Equal(two, want) || !bytes.Equal(s, was) {
			t.Errorf("an answer of Text of %d bytes shares memory", n)
		}
		sample.Wreck(s)
		if !bytes.Equal(two, want) {
			t.Errorf("an answer of Text of %d bytes changes with what was handed in", n)
		}
	}
}

func TestTextsThatAreReadAreNewMemory(t *testing.T) {
	for _, n := range []int{0, 1, 5, 127, 128, 300} {
		one, two := sample.Mingled(11, n), sample.Mingled(12, n)
		b := slices.Concat(pack.Text(one), pack.Text(two), []byte{9})
		was := bytes.Clone(b)
		r, other := pack.NewReader(b), pack.NewReader(b)
		got := r.Text(n)
		sample.Wreck(got)
		if !bytes.Equal(b, was) {
			t.Errorf("a text of %d bytes that was read shares memory with what was handed in", n)
		}
		second := r.Text(n)
		if !bytes.Equal(second, two) {
			t.Errorf("a text of %d bytes that was read shares memory with its reader", n)
		}
		sample.Wreck(got)
		if !bytes.Equal(second, two) {
			t.Errorf("two texts of %d bytes that were read share memory", n)
		}
		sample.Wreck(second)
		if x := r.Byte(); x != 9 {
			t.Errorf("behind a text of %d bytes stands %d; want 9", n, x)
		}
		if got := other.Text(n); !bytes.Equal(got, one) {
			t.Errorf("two readers of a text of %d bytes share memory", n)
		}
	}
}

func TestReadersAreApart(t *testing.T) {
	b := []byte("\x01a\x80\x00\x03xyz")
	one, two := pack.NewReader(b), pack.NewReader(b)
	for range 3 {
		one.Num()
		one.Byte()
	}
	stands(t, "one that has a fault", one, 6, api.ErrForm, 2)
	stands(t, "another one", two, 8, api.ErrForm, 0)
	if s := two.Text(1); string(s) != "a" {
		t.Errorf("Text(1) = %x", s)
	}
	stands(t, "another one", two, 6, api.ErrForm, 2)
	stands(t, "one that has a fault", one, 6, api.ErrForm, 2)
}
