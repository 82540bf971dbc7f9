package cur_test

import (
	"bytes"
	"math"
	"slices"
	"testing"

	"gantline/api"
	"gantline/cur"
)

// goodWidths are all in which a wide number may stand.
func goodWidths() []int { return []int{1, 2, 4, 8} }

// badWidths are others: between the good ones, around 0, and such as would wrap round times 8.
func badWidths() []int {
	return []int{
		0, 3, 5, 6, 7, 9, 10, 12, 16, 32, 64, 256, 257,
		-1, -2, -4, -8, -256, math.MinInt, math.MinInt + 1, math.MinInt + 8,
		math.MaxInt, math.MaxInt - 7, 1 << 32, 1<<32 + 1, 1<<61 + 1, 1 << 61,
	}
}

// greatest is the greatest number that has room in so many bits.
func greatest(bits int) uint64 {
	if bits >= 64 {
		return math.MaxUint64
	}
	return 1<<bits - 1
}

// edges are the numbers around each power of 2, and some without a pattern.
func edges() []uint64 {
	var list []uint64
	for bit := range 64 {
		p := uint64(1) << bit
		list = append(list, p-1, p, p+1)
	}
	list = append(list, 300, 0x0123456789ABCDEF, 0xFEDCBA9876543210, math.MaxUint64-1, math.MaxUint64)
	x := uint64(88172645463325252)
	for i := range 200 {
		x ^= x << 13
		x ^= x >> 7
		x ^= x << 17
		list = append(list, x>>(i%64))
	}
	slices.Sort(list)
	return slices.Compact(list)
}

// sample is n bytes, the same at each run.
func sample(n int) []byte {
	b := make([]byte, n)
	x := uint32(n)*2654435761 + 1
	for i := range b {
		x = x*1664525 + 1013904223
		b[i] = byte(x >> 24)
	}
	return b
}

// tenBytes is a first byte, eight that follow with nothing but their highest bit, and a last one.
func tenBytes(first, last byte) []byte {
	return slices.Concat([]byte{first}, bytes.Repeat([]byte{128}, 8), []byte{last})
}

func fault(why api.Errno, at int) api.Fault { return api.Fault{Why: why, At: at} }

// expectState holds a cursor's place, what is left, and its fault against what they must be.
func expectState(t *testing.T, c *cur.Cursor, at, left int, want api.Fault) {
	t.Helper()
	if c.At() != at || c.Left() != left || c.Fault() != want {
		t.Errorf("at %d, left %d, fault %v, want %d, %d, %v", c.At(), c.Left(), c.Fault(), at, left, want)
	}
}

// P2.1: known wide numbers, the highest byte first.
func TestPutWideKnown(t *testing.T) {
	for _, c := range []struct {
		n     uint64
		width int
		want  []byte
	}{
		{0, 1, []byte{0}},
		{0, 2, []byte{0, 0}},
		{0, 4, []byte{0, 0, 0, 0}},
		{0, 8, []byte{0, 0, 0, 0, 0, 0, 0, 0}},
		{0xFF, 1, []byte{0xFF}},
		{0x80, 2, []byte{0, 0x80}},
		{0x0102, 2, []byte{1, 2}},
		{0xFFFF, 2, []byte{0xFF, 0xFF}},
		{0x01020304, 4, []byte{1, 2, 3, 4}},
		{0xFFFFFFFF, 4, []byte{0xFF, 0xFF, 0xFF, 0xFF}},
		{0x0102030405060708, 8, []byte{1, 2, 3, 4, 5, 6, 7, 8}},
		{math.MaxUint64, 8, bytes.Repeat([]byte{0xFF}, 8)},
	} {
		for _, ahead := range [][]byte{nil, {}, {9}, []byte("ahead of it")} {
			got, err := cur.PutWide(ahead, c.n, c.width)
			if err != api.OK || !bytes.Equal(got, slices.Concat(ahead, c.want)) {
				t.Errorf("PutWide(% X, %X, %d) = % X, %v", ahead, c.n, c.width, got, err)
			}
		}
	}
}

// P2.1: the greatest number of each width, and one more.
func TestPutWideRoom(t *testing.T) {
	for _, width := range goodWidths() {
		most := greatest(8 * width)
		got, err := cur.PutWide([]byte{7}, most, width)
		if err != api.OK || len(got) != 1+width {
			t.Errorf("PutWide(%X, %d) = % X, %v", most, width, got, err)
		}
		if width == 8 {
			continue
		}
		for _, n := range []uint64{most + 1, most + 2, 1 << 63, math.MaxUint64} {
			expectNotPut(t, n, width)
		}
	}
}

// P2.1: other widths are refused, even for 0.
func TestPutWideWidths(t *testing.T) {
	for _, width := range badWidths() {
		for _, n := range []uint64{0, 1, 255, math.MaxUint64} {
			expectNotPut(t, n, width)
		}
	}
	for width := -100; width <= 100; width++ {
		_, err := cur.PutWide(nil, 1, width)
		if good := slices.Contains(goodWidths(), width); good != (err == api.OK) {
			t.Errorf("PutWide(nil, 1, %d): %v", width, err)
		}
	}
}

// expectNotPut is that of an error nothing else is answered, not even what was there.
func expectNotPut(t *testing.T, n uint64, width int) {
	t.Helper()
	for _, ahead := range [][]byte{nil, []byte("ahead")} {
		if got, err := cur.PutWide(ahead, n, width); err != api.ErrArg || len(got) != 0 {
			t.Errorf("PutWide(% X, %X, %d) = % X, %v, want ErrArg", ahead, n, width, got, err)
		}
	}
}

// P2.1, and the document's example: known short numbers, the highest group first.
func TestPutShortKnown(t *testing.T) {
	for _, c := range []struct {
		n    uint64
		want []byte
	}{
		{0, []byte{0}},
		{1, []byte{1}},
		{127, []byte{127}},
		{128, []byte{129, 0}},
		{129, []byte{129, 1}},
		{255, []byte{129, 127}},
		{256, []byte{130, 0}},
		{300, []byte{130, 44}},
		{16383, []byte{255, 127}},
		{16384, []byte{129, 128, 0}},
		{1 << 62, []byte{192, 128, 128, 128, 128, 128, 128, 128, 0}},
		{1 << 63, tenBytes(129, 0)},
		{math.MaxUint64, []byte{129, 255, 255, 255, 255, 255, 255, 255, 255, 127}},
	} {
		for _, ahead := range [][]byte{nil, {}, {128}, []byte("ahead of it")} {
			if got := cur.PutShort(ahead, c.n); !bytes.Equal(got, slices.Concat(ahead, c.want)) {
				t.Errorf("PutShort(% X, %d) = %v, want %v", ahead, c.n, got, c.want)
			}
		}
	}
}

// P2.1: the least and the greatest number of each count of groups.
func TestPutShortGroups(t *testing.T) {
	for groups := 1; groups <= 10; groups++ {
		least := uint64(0)
		if groups > 1 {
			least = 1 << (7 * (groups - 1))
		}
		for _, n := range []uint64{least, least + 1, greatest(7*groups) - 1, greatest(7 * groups)} {
			got := cur.PutShort(nil, n)
			if len(got) != groups {
				t.Errorf("PutShort(nil, %d) has %d bytes, want %d", n, len(got), groups)
			}
			for i, x := range got {
				if more := i < len(got)-1; more != (x >= 128) {
					t.Errorf("PutShort(nil, %d) = %v: byte %d", n, got, i)
				}
			}
		}
	}
}

// P2.4: what was put wide is read, in each width that has room for it.
func TestWideIsRead(t *testing.T) {
	for _, n := range edges() {
		for _, width := range goodWidths() {
			b, err := cur.PutWide([]byte{200}, n, width)
			if room := n <= greatest(8*width); room != (err == api.OK) {
				t.Errorf("PutWide(%X, %d): %v", n, width, err)
			}
			if err != api.OK {
				continue
			}
			c := cur.New(append(b, 77))
			c.Take(1)
			if got := c.Wide(width); got != n {
				t.Errorf("Wide(%d) of % X = %X, want %X", width, b, got, n)
			}
			expectState(t, c, 1+width, 1, api.Fault{})
		}
	}
}

// P2.4: what was put short is read, whatever is behind it.
func TestShortIsRead(t *testing.T) {
	for _, n := range edges() {
		for _, behind := range [][]byte{nil, {0}, {128}, {255, 255}} {
			b := cur.PutShort([]byte{200}, n)
			c := cur.New(slices.Concat(b, behind))
			c.Take(1)
			if got := c.Short(); got != n {
				t.Errorf("Short of %v = %d, want %d", b, got, n)
			}
			expectState(t, c, len(b), len(behind), api.Fault{})
		}
	}
}

// P2.4: wide numbers, short numbers and bytes, one behind the other.
func TestMixedIsRead(t *testing.T) {
	var b []byte
	for i, n := range edges() {
		b = cur.PutShort(b, n)
		b, _ = cur.PutWide(b, n, 8)
		b = append(b, sample(i%5)...)
	}
	c := cur.New(b)
	for i, n := range edges() {
		if short, wide := c.Short(), c.Wide(8); short != n || wide != n {
			t.Fatalf("%d: read %d and %d, want %d", i, short, wide, n)
		}
		if got := c.Take(i % 5); !bytes.Equal(got, sample(i%5)) {
			t.Fatalf("%d: took % X", i, got)
		}
	}
	expectState(t, c, len(b), 0, api.Fault{})
}

// P2.5: bytes that are read as a short number are those that are put for it: all of one, two and three bytes.
func TestShortOneForm(t *testing.T) {
	for _, n := range []int{1, 2, 3} {
		b := make([]byte, n)
		for x := range 1 << (8 * n) {
			for i := range b {
				b[i] = byte(x >> (8 * i))
			}
			c := cur.New(b)
			number := c.Short()
			if c.Fault() != (api.Fault{}) {
				continue
			}
			if put := cur.PutShort(nil, number); !bytes.Equal(put, b[:c.At()]) {
				t.Fatalf("%v is read as %d, which is put as %v", b[:c.At()], number, put)
			}
		}
	}
}

// P2.5: and of ten bytes, where only the first and the last can be wrong.
func TestShortOneLongForm(t *testing.T) {
	for first := range 256 {
		for last := range 256 {
			b := tenBytes(byte(first), byte(last))
			c := cur.New(b)
			number := c.Short()
			if good := first == 129 && last < 128; good != (c.At() == 10) {
				t.Errorf("%v: at %d, fault %v", b, c.At(), c.Fault())
			}
			if c.At() > 0 && !bytes.Equal(cur.PutShort(nil, number), b[:c.At()]) {
				t.Errorf("%v is read as %d, which is put otherwise", b, number)
			}
		}
	}
}

// P2.5: a greater number has no fewer bytes, and another form.
func TestShortGrows(t *testing.T) {
	var last []byte
	for i, n := range edges() {
		b := cur.PutShort(nil, n)
		if len(b) < len(last) {
			t.Errorf("%d has %d bytes, a lesser number %d", n, len(b), len(last))
		}
		if i > 0 && bytes.Equal(b, last) {
			t.Errorf("%d has the form of a lesser number", n)
		}
		last = b
	}
}

// P2.2: known wide numbers, and the place behind each.
func TestWideKnown(t *testing.T) {
	c := cur.New([]byte{1, 2, 3, 4, 5, 6, 7, 8, 9, 10, 11, 12, 13, 14, 15})
	for _, x := range []struct {
		width int
		want  uint64
		at    int
	}{
		{1, 0x01, 1},
		{2, 0x0203, 3},
		{4, 0x04050607, 7},
		{8, 0x08090A0B0C0D0E0F, 15},
	} {
		if got := c.Wide(x.width); got != x.want {
			t.Errorf("Wide(%d) = %X, want %X", x.width, got, x.want)
		}
		expectState(t, c, x.at, 15-x.at, api.Fault{})
	}
}

// P2.2: other widths are a fault at the place, though bytes are missing, too.
func TestWideWidths(t *testing.T) {
	for _, width := range badWidths() {
		for _, n := range []int{0, 1, 20} {
			for _, at := range []int{0, n / 2, n} {
				c := cur.New(sample(n))
				c.Take(at)
				if got := c.Wide(width); got != 0 {
					t.Errorf("Wide(%d) = %d", width, got)
				}
				expectState(t, c, at, n-at, fault(api.ErrArg, at))
			}
		}
	}
}

// P2.2: a wide number of which bytes are missing is a fault at the end of all bytes.
func TestWideEnd(t *testing.T) {
	for _, width := range goodWidths() {
		for at := range 4 {
			for left := range width + 1 {
				c := cur.New(bytes.Repeat([]byte{1}, at+left))
				c.Take(at)
				got := c.Wide(width)
				if left == width {
					expectState(t, c, at+width, 0, api.Fault{})
					continue
				}
				if got != 0 {
					t.Errorf("Wide(%d) of %d bytes = %d", width, left, got)
				}
				expectState(t, c, at, left, fault(api.ErrEnd, at+left))
			}
		}
	}
}

// P2.2: wrong short numbers: which fault, and at which byte, wherever they begin.
func TestShortFaults(t *testing.T) {
	for _, c := range []struct {
		b    []byte
		want api.Fault
	}{
		{nil, fault(api.ErrEnd, 0)},
		{[]byte{129}, fault(api.ErrEnd, 1)},
		{[]byte{255}, fault(api.ErrEnd, 1)},
		{[]byte{129, 128}, fault(api.ErrEnd, 2)},
		{[]byte{192, 128, 128, 128}, fault(api.ErrEnd, 4)},
		{[]byte{128, 0}, fault(api.ErrForm, 0)},
		{[]byte{128, 1}, fault(api.ErrForm, 0)},
		{[]byte{128, 129, 1}, fault(api.ErrForm, 0)},
		{append([]byte{128}, tenBytes(129, 0)...), fault(api.ErrForm, 0)},
		{tenBytes(129, 128), fault(api.ErrForm, 9)},
		{tenBytes(129, 129), fault(api.ErrForm, 9)},
		{tenBytes(129, 255), fault(api.ErrForm, 9)},
		{append(tenBytes(129, 128), 0), fault(api.ErrForm, 9)},
		{tenBytes(130, 0), fault(api.ErrForm, 9)},
		{tenBytes(131, 127), fault(api.ErrForm, 9)},
		{tenBytes(132, 1), fault(api.ErrForm, 9)},
		{tenBytes(192, 0), fault(api.ErrForm, 9)},
		{tenBytes(255, 127), fault(api.ErrForm, 9)},
		{tenBytes(255, 255), fault(api.ErrForm, 9)},
		{bytes.Repeat([]byte{255}, 10), fault(api.ErrForm, 9)},
		{bytes.Repeat([]byte{255}, 40), fault(api.ErrForm, 9)},
		{tenBytes(129, 0)[:9], fault(api.ErrEnd, 9)},
		{tenBytes(130, 0)[:9], fault(api.ErrEnd, 9)},
		{bytes.Repeat([]byte{255}, 9), fault(api.ErrEnd, 9)},
	} {
		for _, ahead := range []int{0, 1, 13} {
			b := slices.Concat(sample(ahead), c.b)
			r := cur.New(b)
			r.Take(ahead)
			if got := r.Short(); got != 0 {
				t.Errorf("Short of %v = %d, want a fault", c.b, got)
			}
			expectState(t, r, ahead, len(c.b), fault(c.want.Why, ahead+c.want.At))
		}
	}
}

// P2.2: a first byte 128 is wrong whatever could follow it, so no byte is missing behind it.
func TestShortFirstByteAlone(t *testing.T) {
	for _, b := range [][]byte{{128}, {128, 128}, {128, 255}} {
		c := cur.New(b)
		if got := c.Short(); got != 0 {
			t.Errorf("Short of %v = %d", b, got)
		}
		expectState(t, c, 0, len(b), fault(api.ErrForm, 0))
	}
}

// P2.2: 128 may stand behind the first byte, and 129 ahead of all.
func TestShortInnerBytes(t *testing.T) {
	for groups := 2; groups <= 10; groups++ {
		b := slices.Concat([]byte{129}, bytes.Repeat([]byte{128}, groups-2), []byte{5})
		c := cur.New(b)
		if got, want := c.Short(), uint64(1)<<(7*(groups-1))+5; got != want {
			t.Errorf("Short of %v = %d, want %d", b, got, want)
		}
		expectState(t, c, groups, 0, api.Fault{})
	}
}

// P2.2: nothing is read of a number's beginning.
func TestShortCutOff(t *testing.T) {
	for _, n := range edges() {
		b := cur.PutShort(nil, n)
		for end := range len(b) {
			c := cur.New(b[:end])
			if got := c.Short(); got != 0 {
				t.Errorf("Short of %v = %d", b[:end], got)
			}
			expectState(t, c, 0, end, fault(api.ErrEnd, end))
		}
	}
}

// P2.2: bytes are taken one behind the other; none, all, and one more than are there.
func TestTake(t *testing.T) {
	for n := range 12 {
		b := sample(n)
		for at := range n + 1 {
			for want := range n - at + 1 {
				c := cur.New(b)
				c.Take(at)
				if got := c.Take(want); !bytes.Equal(got, b[at:at+want]) {
					t.Errorf("Take(%d) at %d of % X = % X", want, at, b, got)
				}
				expectState(t, c, at+want, n-at-want, api.Fault{})
			}
			c := cur.New(b)
			c.Take(at)
			if got := c.Take(n - at + 1); len(got) != 0 {
				t.Errorf("Take of one too many = % X", got)
			}
			expectState(t, c, at, n-at, fault(api.ErrEnd, n))
		}
	}
}

// P2.2: counts below 0, and ones with which the place would leave 64 bits.
func TestTakeCounts(t *testing.T) {
	for _, at := range []int{0, 3, 5} {
		for _, n := range []int{-1, -2, -3, -5, math.MinInt, math.MinInt + 1} {
			c := cur.New(sample(5))
			c.Take(at)
			if got := c.Take(n); len(got) != 0 {
				t.Errorf("Take(%d) = % X", n, got)
			}
			expectState(t, c, at, 5-at, fault(api.ErrArg, at))
		}
		for _, n := range []int{6, 1 << 32, math.MaxInt - 3, math.MaxInt} {
			c := cur.New(sample(5))
			c.Take(at)
			if got := c.Take(n); len(got) != 0 {
				t.Errorf("Take(%d) = % X", n, got)
			}
			expectState(t, c, at, 5-at, fault(api.ErrEnd, 5))
		}
	}
}

// P2.2: a byte that stands in the room behind what was handed in is missing all the same.
func TestRoomBehindIsNotRead(t *testing.T) {
	whole := []byte{129, 1, 2, 3, 4, 5, 6, 7, 8}
	c := cur.New(whole[:1])
	if got := c.Short(); got != 0 {
		t.Errorf("Short = %d", got)
	}
	expectState(t, c, 0, 1, fault(api.ErrEnd, 1))
	c = cur.New(whole[:1])
	if got := c.Wide(2); got != 0 {
		t.Errorf("Wide(2) = %d", got)
	}
	expectState(t, c, 0, 1, fault(api.ErrEnd, 1))
	c = cur.New(whole[:1])
	if got := c.Take(2); len(got) != 0 {
		t.Errorf("Take(2) = % X", got)
	}
	expectState(t, c, 0, 1, fault(api.ErrEnd, 1))
}

// P2.3: no bytes at all, nil or not, are a cursor's as well as others.
func TestNoBytes(t *testing.T) {
	for _, b := range [][]byte{nil, {}} {
		c := cur.New(b)
		expectState(t, c, 0, 0, api.Fault{})
		if got := c.Take(0); len(got) != 0 {
			t.Errorf("Take(0) = % X", got)
		}
		expectState(t, c, 0, 0, api.Fault{})
		if got := c.Wide(1); got != 0 {
			t.Errorf("Wide(1) = %d", got)
		}
		expectState(t, c, 0, 0, fault(api.ErrEnd, 0))
	}
}

// P2.3: a new cursor is ahead of all bytes, and has no fault.
func TestNew(t *testing.T) {
	for _, n := range []int{1, 2, 9, 1200, 4096} {
		expectState(t, cur.New(sample(n)), 0, n, api.Fault{})
	}
}

// callAll calls all that reads, with arguments that may be and others; none of it may read anything.
func callAll(t *testing.T, c *cur.Cursor) {
	t.Helper()
	for _, width := range append(goodWidths(), badWidths()...) {
		if got := c.Wide(width); got != 0 {
			t.Errorf("Wide(%d) = %d behind a fault", width, got)
		}
	}
	if got := c.Short(); got != 0 {
		t.Errorf("Short = %d behind a fault", got)
	}
	for _, n := range []int{0, 1, 2, 5, 100, -1, math.MinInt, math.MaxInt} {
		if got := c.Take(n); len(got) != 0 {
			t.Errorf("Take(%d) = % X behind a fault", n, got)
		}
	}
}

// P2.3: nil cursors, and ones that New did not give, are at their fault from the beginning on.
func TestNotMade(t *testing.T) {
	var none *cur.Cursor
	for _, c := range []*cur.Cursor{none, {}, new(cur.Cursor)} {
		expectState(t, c, 0, 0, fault(api.ErrNil, 0))
		callAll(t, c)
		expectState(t, c, 0, 0, fault(api.ErrNil, 0))
	}
}

// P2.3: the first call on one finds the fault there, whichever call it is.
func TestNotMadeFirstCall(t *testing.T) {
	calls := []func(c *cur.Cursor){
		func(c *cur.Cursor) { c.Wide(1) },
		func(c *cur.Cursor) { c.Wide(3) },
		func(c *cur.Cursor) { c.Short() },
		func(c *cur.Cursor) { c.Take(0) },
		func(c *cur.Cursor) { c.Take(1) },
		func(c *cur.Cursor) { c.Take(-1) },
	}
	for _, call := range calls {
		for _, c := range []*cur.Cursor{nil, {}} {
			call(c)
			expectState(t, c, 0, 0, fault(api.ErrNil, 0))
		}
	}
}

// P2.6: behind each kind of fault the place, what is left and the fault stay, and nothing is read.
func TestBehindFault(t *testing.T) {
	ahead := []byte{1, 2, 3}
	for _, x := range []struct {
		behind []byte
		spoil  func(c *cur.Cursor)
		want   api.Fault
	}{
		{[]byte{5, 6, 7, 8, 9, 10, 11, 12, 13}, func(c *cur.Cursor) { c.Wide(3) }, fault(api.ErrArg, 3)},
		{[]byte{5, 6, 7, 8, 9, 10, 11, 12, 13}, func(c *cur.Cursor) { c.Wide(-1) }, fault(api.ErrArg, 3)},
		{[]byte{5, 6, 7, 8, 9, 10, 11, 12, 13}, func(c *cur.Cursor) { c.Take(-1) }, fault(api.ErrArg, 3)},
		{[]byte{5, 6, 7, 8, 9, 10, 11, 12, 13}, func(c *cur.Cursor) { c.Take(10) }, fault(api.ErrEnd, 12)},
		{[]byte{5, 6, 7}, func(c *cur.Cursor) { c.Wide(4) }, fault(api.ErrEnd, 6)},
		{[]byte{129, 255}, func(c *cur.Cursor) { c.Short() }, fault(api.ErrEnd, 5)},
		{nil, func(c *cur.Cursor) { c.Short() }, fault(api.ErrEnd, 3)},
		{[]byte{128, 1, 1}, func(c *cur.Cursor) { c.Short() }, fault(api.ErrForm, 3)},
		{tenBytes(129, 128), func(c *cur.Cursor) { c.Short() }, fault(api.ErrForm, 12)},
		{tenBytes(130, 1), func(c *cur.Cursor) { c.Short() }, fault(api.ErrForm, 12)},
	} {
		c := cur.New(slices.Concat(ahead, x.behind))
		c.Take(3)
		x.spoil(c)
		expectState(t, c, 3, len(x.behind), x.want)
		callAll(t, c)
		x.spoil(c)
		expectState(t, c, 3, len(x.behind), x.want)
	}
}

// R3, R5: one cursor's place and fault are not another's.
func TestCursorsApart(t *testing.T) {
	b := []byte{1, 2, 3}
	first, second := cur.New(b), cur.New(b)
	first.Take(2)
	expectState(t, second, 0, 3, api.Fault{})
	first.Take(9)
	expectState(t, first, 2, 1, fault(api.ErrEnd, 3))
	if got := second.Wide(2); got != 0x0102 {
		t.Errorf("Wide(2) = %X", got)
	}
	expectState(t, second, 2, 1, api.Fault{})
	expectState(t, cur.New(b), 0, 3, api.Fault{})
}

// withRoom is a list with room behind it, and the whole with that room.
func withRoom(b []byte) (short, whole []byte) {
	whole = slices.Concat(b, bytes.Repeat([]byte{0xA5}, 32))
	return whole[:len(b)], whole
}

// overwrite writes into a list up to its capacity.
func overwrite(b []byte) {
	b = b[:cap(b)]
	for i := range b {
		b[i] ^= 0xFF
	}
}

// puts are the two ways to put a number behind bytes.
func puts() []func(b []byte) []byte {
	return []func(b []byte) []byte{
		func(b []byte) []byte { put, _ := cur.PutWide(b, 0x0102030405060708, 8); return put },
		func(b []byte) []byte { put, _ := cur.PutWide(b, 9, 1); return put },
		func(b []byte) []byte { return cur.PutShort(b, 9) },
		func(b []byte) []byte { return cur.PutShort(b, math.MaxUint64) },
	}
}

// R4: what a number is put behind stays, with the room behind it, and shares nothing with the answer.
func TestPutSharesNothing(t *testing.T) {
	for _, put := range puts() {
		for _, n := range []int{0, 1, 8, 32, 100} {
			want := put(sample(n))
			short, whole := withRoom(sample(n))
			before := bytes.Clone(whole)
			first, second := put(short), put(short)
			if !bytes.Equal(whole, before) {
				t.Errorf("%d bytes, or the room behind them, were changed", n)
			}
			overwrite(first)
			if !bytes.Equal(whole, before) || !bytes.Equal(second, want) {
				t.Errorf("%d bytes: writing into an answer changed something else", n)
			}
			overwrite(whole)
			if !bytes.Equal(second, want) {
				t.Errorf("%d bytes: writing into the argument changed the answer", n)
			}
		}
	}
}

// R4: a number that is refused leaves what it was to be put behind as it was.
func TestRefusedPutStays(t *testing.T) {
	short, whole := withRoom(sample(5))
	before := bytes.Clone(whole)
	cur.PutWide(short, 256, 1)
	cur.PutWide(short, 1, 3)
	if !bytes.Equal(whole, before) {
		t.Error("a refused PutWide changed what it was handed")
	}
}

// R4: a cursor neither changes nor keeps its bytes: writing into them afterwards turns nothing that it reads.
func TestNewKeepsNothing(t *testing.T) {
	b := slices.Concat([]byte{130, 44, 1, 2}, sample(40))
	short, whole := withRoom(b)
	before := bytes.Clone(whole)
	c := cur.New(short)
	readAll(t, c, b)
	if !bytes.Equal(whole, before) {
		t.Error("the bytes, or the room behind them, were changed")
	}

	c = cur.New(short)
	overwrite(whole)
	readAll(t, c, b)
}

// readAll reads the short number 300, the wide number 0102, and the other 40 bytes.
func readAll(t *testing.T, c *cur.Cursor, b []byte) {
	t.Helper()
	if short, wide := c.Short(), c.Wide(2); short != 300 || wide != 0x0102 {
		t.Errorf("read %d and %X", short, wide)
	}
	if got := c.Take(40); !bytes.Equal(got, b[4:]) {
		t.Errorf("took % X, want % X", got, b[4:])
	}
}

// R4: bytes that were taken are the caller's: writing into them, up to all their room, turns nothing that is read.
func TestTakeSharesNothing(t *testing.T) {
	for _, n := range []int{0, 1, 2, 7, 20, 39} {
		b := sample(40)
		short, whole := withRoom(b)
		before := bytes.Clone(whole)
		c, other := cur.New(short), cur.New(short)
		first := c.Take(n)
		overwrite(first)
		_ = append(first, 1, 2, 3, 4)
		if got := c.Take(40 - n); !bytes.Equal(got, b[n:]) {
			t.Errorf("behind %d bytes: % X, want % X", n, got, b[n:])
		}
		if got := other.Take(40); !bytes.Equal(got, b) {
			t.Errorf("another cursor took % X", got)
		}
		if !bytes.Equal(whole, before) {
			t.Error("writing into what was taken changed what was handed in")
		}
	}
}

// R4: nor what a cursor reads that was copied ahead of it, and so is still at those bytes.
func TestTakeSharesNothingWithCopy(t *testing.T) {
	b := sample(20)
	c := cur.New(b)
	c.Take(4)
	still := *c
	overwrite(c.Take(10))
	if got := still.Take(16); !bytes.Equal(got, b[4:]) {
		t.Errorf("took % X, want % X", got, b[4:])
	}
}

// R4: what is taken later does not turn what was taken ahead, and the way: no room is behind it.
func TestTakenStays(t *testing.T) {
	b := sample(60)
	c := cur.New(b)
	var taken [][]byte
	for n := range 10 {
		taken = append(taken, c.Take(n))
	}
	at := 0
	for n, piece := range taken {
		if !bytes.Equal(piece, b[at:at+n]) {
			t.Errorf("piece %d is % X", n, piece)
		}
		if cap(piece) != len(piece) {
			t.Errorf("piece %d has room for %d more", n, cap(piece)-len(piece))
		}
		at += n
	}
}

// R1, R3: a long row of any calls ends, reads what stands there, and does the same again.
func TestAnyCalls(t *testing.T) {
	for seed := range 2000 {
		b := sample(seed % 50)
		draws := sample(200 + seed)
		first, second := cur.New(b), cur.New(b)
		for _, draw := range draws {
			at := first.At()
			one, other := call(first, draw), call(second, draw)
			if !bytes.Equal(one, other) || first.Fault() != second.Fault() || first.At() != second.At() {
				t.Fatalf("seed %d: the same calls had other answers", seed)
			}
			if first.At() < at || first.At()+first.Left() != len(b) {
				t.Fatalf("seed %d: at %d, then %d, left %d of %d", seed, at, first.At(), first.Left(), len(b))
			}
			if first.Fault() == (api.Fault{}) && !bytes.Equal(one, b[at:first.At()]) {
				t.Fatalf("seed %d: read % X of % X", seed, one, b[at:first.At()])
			}
			if first.Fault() != (api.Fault{}) && (len(one) != 0 || first.At() != at) {
				t.Fatalf("seed %d: read % X with a fault", seed, one)
			}
		}
	}
}

// call does one call by a draw, and answers what was read as the bytes that it is put in; of a 0 with a fault nothing.
func call(c *cur.Cursor, draw byte) []byte {
	switch draw % 4 {
	case 0:
		width := 1 << (draw / 4 % 4)
		n := c.Wide(width)
		if n == 0 && c.Fault() != (api.Fault{}) {
			return nil
		}
		read, _ := cur.PutWide(nil, n, width)
		return read
	case 3:
		return c.Take(int(draw / 4 % 8))
	}
	n := c.Short()
	if n == 0 && c.Fault() != (api.Fault{}) {
		return nil
	}
	return cur.PutShort(nil, n)
}
