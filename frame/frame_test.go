package frame_test

import (
	"bytes"
	"hash/crc32"
	"slices"
	"testing"

	"gantline/api"
	"gantline/frame"
)

// sealed is a frame by the library's check sum, with any mark and length that a test wants told.
func sealed(mark0, mark1 byte, length int, load []byte) []byte {
	told := append([]byte{byte(length >> 8), byte(length)}, load...)
	sum := crc32.ChecksumIEEE(told)
	f := append([]byte{mark0, mark1}, told...)
	return append(f, byte(sum), byte(sum>>8), byte(sum>>16), byte(sum>>24))
}

// framed is a load's frame, made without the package.
func framed(load []byte) []byte { return sealed(165, 90, len(load), load) }

// frameOf is framed of a text.
func frameOf(load string) []byte { return framed([]byte(load)) }

func join(parts ...[]byte) []byte { return slices.Concat(parts...) }

// bent is a copy with the bytes from a place on turned.
func bent(b []byte, at int, by ...byte) []byte {
	c := slices.Clone(b)
	for i, x := range by {
		c[at+i] ^= x
	}
	return c
}

// chance gives the same numbers at each run.
type chance uint64

func (c *chance) below(n int) int {
	x := uint64(*c)
	x ^= x << 13
	x ^= x >> 7
	x ^= x << 17
	*c = chance(x)
	return int(x>>11) % n
}

// sample is n bytes, the same at each run.
func sample(n int) []byte {
	c := chance(n + 1)
	b := make([]byte, n)
	for i := range b {
		b[i] = byte(c.below(256))
	}
	return b
}

// model is the document's look, told by frames alone: what stands at a place is held against the frame that its own bytes would make.
func model(b []byte) (loads [][]byte, at int) {
	for {
		rest := b[at:]
		load, whole := modelWhole(rest)
		switch {
		case whole:
			loads = append(loads, load)
			at += len(load) + 8
		case modelBegins(rest):
			return loads, at
		default:
			at++
		}
	}
}

// modelWhole is the load of the frame that b begins with.
func modelWhole(b []byte) ([]byte, bool) {
	if len(b) < 8 {
		return nil, false
	}
	n := int(b[2])*256 + int(b[3])
	if n > 1200 || len(b) < n+8 {
		return nil, false
	}
	load := slices.Clone(b[4 : 4+n])
	return load, bytes.Equal(framed(load), b[:n+8])
}

// modelBegins says whether b is how a frame of some length that may be begins, and not all of one: the check sum is told by all of its bytes.
func modelBegins(b []byte) bool {
	if len(b) > 0 && b[0] != 165 {
		return false
	}
	for n := 0; n <= 1200; n++ {
		head := []byte{165, 90, byte(n / 256), byte(n % 256)}
		if len(b) < n+8 && bytes.Equal(head[:min(4, len(b))], b[:min(4, len(b))]) {
			return true
		}
	}
	return false
}

// modelStream is the document's stream, by the model's look.
type modelStream struct {
	waits []byte
	lost  int
}

func (m *modelStream) look(b []byte) [][]byte {
	loads, end := model(b)
	m.lost += end
	for _, l := range loads {
		m.lost -= len(l) + 8
	}
	m.waits = slices.Clone(b[end:])
	return loads
}

func (m *modelStream) feed(b []byte) [][]byte { return m.look(join(m.waits, b)) }

func (m *modelStream) flush() [][]byte {
	var loads [][]byte
	for len(m.waits) > 0 {
		m.lost++
		loads = append(loads, m.look(m.waits[1:])...)
	}
	return loads
}

func same(a, b [][]byte) bool { return slices.EqualFunc(a, b, bytes.Equal) }

func list(loads ...string) [][]byte {
	var l [][]byte
	for _, s := range loads {
		l = append(l, []byte(s))
	}
	return l
}

// expectScan holds a Scan against what it must answer.
func expectScan(t *testing.T, name string, b []byte, want [][]byte, at int) {
	t.Helper()
	loads, end := frame.Scan(b)
	if !same(loads, want) || end != at {
		t.Errorf("%s: Scan(%v) = %q, %d, want %q, %d", name, b, loads, end, want, at)
	}
}

// expectStream holds what a stream found, and what it has, against what they must be.
func expectStream(t *testing.T, name string, s *frame.Stream, found, want [][]byte, waits, lost int) {
	t.Helper()
	if !same(found, want) || s.Waits() != waits || s.Lost() != lost {
		t.Errorf("%s: found %q, %d wait, %d lost, want %q, %d, %d", name, found, s.Waits(), s.Lost(), want, waits, lost)
	}
}

// P3.1 and the document's example: known frames.
func TestEncodeKnown(t *testing.T) {
	for _, c := range []struct {
		load string
		want []byte
	}{
		{"a", []byte{165, 90, 0, 1, 97, 0x9D, 0xB9, 0xEF, 0xDC}},
		{"", []byte{165, 90, 0, 0, 0xFF, 0x12, 0xD9, 0x41}},
	} {
		got, err := frame.Encode([]byte(c.load))
		if err != api.OK || !bytes.Equal(got, c.want) {
			t.Errorf("Encode(%q) = %x, %v, want %x", c.load, got, err, c.want)
		}
	}
	if got, err := frame.Encode(nil); err != api.OK || len(got) != 8 {
		t.Errorf("Encode(nil) = %v, %v", got, err)
	}
}

// P3.1: a frame of every length that may be, and no frame of one beyond.
func TestEncodeLengths(t *testing.T) {
	for n := 0; n <= api.MaxLoad; n++ {
		load := sample(n)
		got, err := frame.Encode(load)
		if err != api.OK || !bytes.Equal(got, framed(load)) {
			t.Fatalf("Encode of %d bytes = %x, %v", n, got, err)
		}
	}
	for _, n := range []int{1201, 1202, 1208, 1280, 4096, 65535, 65536, 65537, 1 << 20} {
		if got, err := frame.Encode(make([]byte, n)); err != api.ErrMany || len(got) != 0 {
			t.Errorf("Encode of %d bytes = %d bytes, %v", n, len(got), err)
		}
	}
}

// P3.1: what was encoded is found, for every length, alone and with bytes behind it.
func TestScanFindsEncoded(t *testing.T) {
	for n := 0; n <= api.MaxLoad; n++ {
		load := sample(n)
		b, _ := frame.Encode(load)
		expectScan(t, "alone", b, [][]byte{load}, n+8)
		expectScan(t, "bytes behind", append(b, 1, 2, 3), [][]byte{load}, n+11)
	}
}

// P3.1: frames among other bytes, and where the look ends.
func TestScanKnown(t *testing.T) {
	a, none, long := frameOf("a"), frameOf(""), framed(sample(1200))
	for _, c := range []struct {
		name string
		b    []byte
		want [][]byte
		at   int
	}{
		{"no bytes", nil, nil, 0},
		{"an empty list", []byte{}, nil, 0},
		{"other bytes alone", []byte{1, 2, 90, 0, 0}, nil, 5},
		{"the mark's second byte alone", []byte{90}, nil, 1},
		{"a frame alone", a, list("a"), 9},
		{"a load of no bytes", none, list(""), 8},
		{"the longest load", long, [][]byte{sample(1200)}, 1208},
		{"two in a row", join(a, frameOf("bc")), list("a", "bc"), 19},
		{"the same twice", join(a, a), list("a", "a"), 18},
		{"three, of no bytes", join(none, none, none), list("", "", ""), 24},
		{"a byte ahead", join([]byte{7}, a), list("a"), 10},
		{"a byte behind", join(a, []byte{7}), list("a"), 10},
		{"bytes on all sides", join([]byte{1, 2}, a, []byte{3}, none, []byte{4, 5}), list("a", ""), 22},
		{"the mark's first byte ahead", join([]byte{165}, a), list("a"), 10},
		{"many of them ahead", join([]byte{165, 165, 165}, a), list("a"), 12},
		{"a mark ahead", join([]byte{165, 90}, a), list("a"), 11},
		{"165 and not 90", []byte{165, 91, 0, 0, 0, 0, 0, 0}, nil, 8},
		{"165 and 89", []byte{165, 89}, nil, 2},
		{"164 and 90", sealed(164, 90, 1, []byte("a")), nil, 9},
		{"another second byte, else a frame", sealed(165, 91, 1, []byte("a")), nil, 9},
		{"mark turned round", sealed(90, 165, 1, []byte("a")), nil, 9},
		{"a frame and a mark's first byte", join(a, []byte{165}), list("a"), 9},
		{"a frame and most of another", join(a, a[:8]), list("a"), 9},
		{"bytes, then a beginning", join([]byte{1, 2, 3}, a[:5]), nil, 3},
		{"a frame within a frame's load", framed(a), [][]byte{a}, 17},
	} {
		expectScan(t, c.name, c.b, c.want, c.at)
	}
}

// P3.1: a length above 1200 begins no frame, told as soon as it can be; one of 1200 may be.
func TestScanLengths(t *testing.T) {
	for _, c := range []struct {
		name string
		b    []byte
		at   int
	}{
		{"1200", []byte{165, 90, 4, 176}, 0},
		{"1200, with some of its load", join([]byte{165, 90, 4, 176}, make([]byte, 1203)), 0},
		{"a higher byte of 4", []byte{165, 90, 4}, 0},
		{"a higher byte of 5", []byte{165, 90, 5}, 3},
		{"a higher byte of 255", []byte{165, 90, 255}, 3},
		{"1201", []byte{165, 90, 4, 177}, 4},
		{"1279", []byte{165, 90, 4, 255}, 4},
		{"1280", []byte{165, 90, 5, 0}, 4},
		{"65535", []byte{165, 90, 255, 255}, 4},
		{"lower byte first", []byte{165, 90, 176, 4}, 4},
		{"a whole one of 1201", sealed(165, 90, 1201, make([]byte, 1201)), 1209},
		{"a whole one of 1280", sealed(165, 90, 1280, make([]byte, 1280)), 1288},
	} {
		expectScan(t, c.name, c.b, nil, c.at)
	}
	for _, n := range []int{1201, 1202, 1280, 4096, 65535} {
		head := []byte{165, 90, byte(n >> 8), byte(n)}
		expectScan(t, "a frame behind it", join(head, frameOf("a")), list("a"), 13)
		expectScan(t, "a frame in its load", join(head, frameOf("a"), make([]byte, n)), list("a"), 13+n)
	}
}

// P3.1: a check sum that does not fit; the look goes on one byte further, so that frames within are found.
func TestScanSums(t *testing.T) {
	a := frameOf("a")
	for at := 5; at < 9; at++ {
		for bit := range 8 {
			b := bent(a, at, 1<<bit)
			expectScan(t, "one bit", b[:9], nil, 9)
		}
	}
	inner := framed(join([]byte{1, 2, 3}, a, []byte{4, 5}, frameOf("bc"), []byte{6}))
	for at := len(inner) - 4; at < len(inner); at++ {
		expectScan(t, "frames within", bent(inner, at, 1), list("a", "bc"), len(inner))
	}
	expectScan(t, "sound", inner, [][]byte{inner[4 : len(inner)-4]}, len(inner))
	expectScan(t, "broken, then sound", join(bent(a, 4, 1), a), list("a"), 18)
	// The check sum's order of bytes, and what it is the sum of.
	expectScan(t, "order turned round", append(slices.Clone(a[:5]), a[8], a[7], a[6], a[5]), nil, 9)
	sum := crc32.ChecksumIEEE([]byte("a"))
	expectScan(t, "of the load alone", []byte{165, 90, 0, 1, 97, byte(sum), byte(sum >> 8), byte(sum >> 16), byte(sum >> 24)}, nil, 9)
	sum = crc32.ChecksumIEEE(a[:5])
	expectScan(t, "of the mark, too", []byte{165, 90, 0, 1, 97, byte(sum), byte(sum >> 8), byte(sum >> 16), byte(sum >> 24)}, nil, 9)
}

// P3.1: a frame that is cut at any place is how one begins; with a byte of load or check sum turned, too: that is told when all is there.
func TestScanCut(t *testing.T) {
	for _, n := range []int{0, 1, 2, 3, 255, 256, 257, 1199, 1200} {
		f := framed(sample(n))
		for cut := range len(f) {
			expectScan(t, "cut", f[:cut], nil, 0)
			expectScan(t, "cut, behind bytes", join([]byte{1, 2}, f[:cut]), nil, 2)
			expectScan(t, "cut, behind a frame", join(frameOf("a"), f[:cut]), list("a"), 9)
		}
	}
	f := frameOf("abc")
	for at := 4; at < 11; at++ {
		b := bent(f, at, 1)
		for cut := range len(f) {
			expectScan(t, "turned and cut", b[:cut], nil, 0)
		}
		expectScan(t, "turned", b, nil, 11)
	}
}

// words are all lists of so many bytes of some.
func words(some []byte, n int) [][]byte {
	all := [][]byte{nil}
	for range n {
		var longer [][]byte
		for _, w := range all {
			for _, x := range some {
				longer = append(longer, append(slices.Clone(w), x))
			}
		}
		all = longer
	}
	return all
}

// P3.1: all short lists of the bytes that matter, against the model.
func TestScanShortLists(t *testing.T) {
	for n := range 7 {
		for _, w := range words([]byte{165, 90, 0, 4, 5, 177}, n) {
			want, at := model(w)
			expectScan(t, "short", w, want, at)
		}
	}
}

// mess is bytes with frames among them, whole, cut, turned and within one another.
func mess(c *chance) []byte {
	var b []byte
	for range 1 + c.below(6) {
		f := framed(sample(c.below(20)))
		switch c.below(8) {
		case 0:
			b = append(b, sample(c.below(8))...)
		case 1:
			b = append(b, []byte{165, 165, 90, 90, 0, 5, 4, 177}[c.below(8)])
		case 2:
			b = append(b, f[:c.below(len(f))]...)
		case 3:
			b = append(b, bent(f, c.below(len(f)), byte(1+c.below(255)))...)
		case 4:
			b = append(b, framed(join(f, sample(c.below(5))))...)
		case 5:
			g := framed(join(sample(c.below(5)), f, f))
			b = append(b, bent(g, c.below(len(g)), byte(1+c.below(255)))...)
		case 6:
			b = append(b, 165, 90, 0, byte(c.below(40)))
		default:
			b = append(b, f...)
		}
	}
	return b
}

// P3.1: bytes without a pattern, against the model.
func TestScanMess(t *testing.T) {
	c := chance(3)
	for range 4000 {
		b := mess(&c)
		want, at := model(b)
		expectScan(t, "mess", b, want, at)
	}
}

// P3.2 and P3.3: a stream's calls, one by one.
func TestStreamKnown(t *testing.T) {
	a, bc := frameOf("a"), frameOf("bc")
	s := frame.New()
	expectStream(t, "new", s, nil, nil, 0, 0)
	expectStream(t, "nothing", s, s.Feed(nil), nil, 0, 0)
	expectStream(t, "an empty list", s, s.Feed([]byte{}), nil, 0, 0)
	expectStream(t, "a flush of nothing", s, s.Flush(), nil, 0, 0)
	expectStream(t, "a frame", s, s.Feed(a), list("a"), 0, 0)
	expectStream(t, "a beginning", s, s.Feed(bc[:6]), nil, 6, 0)
	expectStream(t, "nothing, while some wait", s, s.Feed(nil), nil, 6, 0)
	expectStream(t, "the rest, and a beginning", s, s.Feed(join(bc[6:], a[:3])), list("bc"), 3, 0)
	expectStream(t, "the rest, and two", s, s.Feed(join(a[3:], bc, a)), list("a", "bc", "a"), 0, 0)
	expectStream(t, "other bytes", s, s.Feed([]byte{1, 2, 3}), nil, 0, 3)
	expectStream(t, "bytes, a frame, bytes", s, s.Feed(join([]byte{1}, a, []byte{2, 165})), list("a"), 1, 5)
	expectStream(t, "no 90 behind it", s, s.Feed([]byte{7}), nil, 0, 7)
	expectStream(t, "a beginning", s, s.Feed(a[:8]), nil, 8, 7)
	expectStream(t, "given up", s, s.Flush(), nil, 0, 15)
	expectStream(t, "given up again", s, s.Flush(), nil, 0, 15)
	expectStream(t, "the rest comes too late", s, s.Feed(a[8:]), nil, 0, 16)
	expectStream(t, "a frame of no bytes", s, s.Feed(frameOf("")), list(""), 0, 16)
}

// P3.2: a Flush finds the frames within what waited, and goes on behind them.
func TestFlushFinds(t *testing.T) {
	a, bc, none := frameOf("a"), frameOf("bc"), frameOf("")
	long := []byte{165, 90, 4, 176} // the head of a frame that never comes
	for _, c := range []struct {
		name string
		b    []byte
		want [][]byte
		lost int
	}{
		{"a mark's byte", []byte{165}, nil, 1},
		{"a head alone", long, nil, 4},
		{"a frame behind a head", join(long, a), list("a"), 4},
		{"two behind a head", join(long, a, bc), list("a", "bc"), 4},
		{"bytes around", join(long, []byte{1}, a, []byte{2, 3}, none, []byte{4}), list("a", ""), 8},
		{"two heads", join(long, a, long, bc), list("a", "bc"), 8},
		{"heads in a row", join(long, long, long, a), list("a"), 12},
		{"a head at the end", join(long, a, []byte{165, 90}), list("a"), 6},
		{"a frame within a cut one", framed(join(a, bc))[:22], list("a"), 13},
		{"a whole frame that a cut one has", framed(join(a, bc))[:26], list("a", "bc"), 7},
		{"frames of frames", join(long, framed(a), framed(bc)), [][]byte{a, bc}, 4},
		{"the most that can wait", join(long, bytes.Repeat(none, 150), []byte{1, 2, 3}), slices.Repeat(list(""), 150), 7},
	} {
		s := frame.New()
		expectStream(t, c.name, s, s.Feed(c.b), nil, len(c.b), 0)
		expectStream(t, c.name+", flushed", s, s.Flush(), c.want, 0, c.lost)
		expectStream(t, c.name+", again", s, s.Feed(a), list("a"), 0, c.lost)
	}
}

// P3.2 and P3.3: calls in any order, against the model.
func TestStreamMess(t *testing.T) {
	c := chance(5)
	for range 600 {
		s, m := frame.New(), &modelStream{}
		for range 12 {
			if c.below(5) == 0 {
				want := m.flush()
				expectStream(t, "flush", s, s.Flush(), want, 0, m.lost)
				continue
			}
			b := mess(&c)
			from := c.below(len(b) + 1)
			b = b[from : from+c.below(len(b)-from+1)]
			want := m.feed(b)
			expectStream(t, "feed", s, s.Feed(b), want, len(m.waits), m.lost)
		}
	}
}

// P3.3: a nil stream and one that New did not give find nothing, and have none.
func TestStreamNotMade(t *testing.T) {
	a := frameOf("a")
	var empty frame.Stream
	for name, s := range map[string]*frame.Stream{"nil": nil, "a new one": new(frame.Stream), "a variable": &empty} {
		expectStream(t, name, s, s.Feed(a), nil, 0, 0)
		expectStream(t, name+", a beginning", s, s.Feed(a[:5]), nil, 0, 0)
		expectStream(t, name+", its rest", s, s.Feed(a[5:]), nil, 0, 0)
		expectStream(t, name+", other bytes", s, s.Feed([]byte{1, 2}), nil, 0, 0)
		expectStream(t, name+", nothing", s, s.Feed(nil), nil, 0, 0)
		expectStream(t, name+", flushed", s, s.Flush(), nil, 0, 0)
	}
}

// P3.3: each byte waits, is lost, or belongs to a load's frame.
func TestLostAddsUp(t *testing.T) {
	c := chance(7)
	for range 500 {
		s, fed, found := frame.New(), 0, 0
		for range 8 {
			b := mess(&c)
			fed += len(b)
			for _, l := range s.Feed(b) {
				found += len(l) + 8
			}
			if fed != found+s.Waits()+s.Lost() {
				t.Fatalf("%d bytes, %d found, %d wait, %d lost", fed, found, s.Waits(), s.Lost())
			}
		}
		for _, l := range s.Flush() {
			found += len(l) + 8
		}
		if s.Waits() != 0 || fed != found+s.Lost() {
			t.Fatalf("flushed: %d bytes, %d found, %d wait, %d lost", fed, found, s.Waits(), s.Lost())
		}
	}
}

// expectCut feeds bytes in pieces, and holds all that is found, waits and is lost against a Scan of all, and so what a Flush then finds.
func expectCut(t *testing.T, b []byte, cuts ...int) {
	t.Helper()
	whole, s := frame.New(), frame.New()
	want := whole.Feed(b)
	var found [][]byte
	from := 0
	for _, cut := range append(cuts, len(b)) {
		found = append(found, s.Feed(b[from:cut])...)
		from = cut
	}
	expectStream(t, "cut", s, found, want, whole.Waits(), whole.Lost())
	scanned, end := frame.Scan(b)
	if !same(scanned, want) || end != len(b)-whole.Waits() {
		t.Errorf("Scan = %q, %d, a Feed of all %q, %d wait", scanned, end, want, whole.Waits())
	}
	rest := whole.Flush()
	expectStream(t, "cut, flushed", s, s.Flush(), rest, 0, whole.Lost())
}

// P3.4: a stream of each kind of thing, cut at each one place, at each two, and at all.
func TestCutKnown(t *testing.T) {
	a, bc := frameOf("a"), frameOf("bc")
	for _, b := range [][]byte{
		a,
		join(a, bc),
		join([]byte{1, 165}, a, []byte{165, 90, 0}, bc, []byte{165, 90}),
		join(bent(a, 6, 1), bc),
		bent(framed(join(a, bc)), 24, 128),
		join([]byte{165, 90, 4, 177}, a),
		join([]byte{165, 90, 4, 176}, a, bc),
		join([]byte{165, 90, 5}, bc),
		join(frameOf(""), frameOf("")),
	} {
		var all []int
		for i := range len(b) + 1 {
			for j := i; j <= len(b); j++ {
				expectCut(t, b, i, j)
			}
			all = append(all, i)
		}
		expectCut(t, b, all...)
	}
	long := join(framed(sample(1200)), a)
	for i := range long {
		expectCut(t, long, i)
	}
}

// P3.4: bytes without a pattern, cut anywhere.
func TestCutMess(t *testing.T) {
	c := chance(11)
	for range 1500 {
		b := join(mess(&c), mess(&c))
		var cuts []int
		for range c.below(9) {
			cuts = append(cuts, c.below(len(b)+1))
		}
		slices.Sort(cuts)
		expectCut(t, b, cuts...)
	}
}

// filler is bytes of which none is 165.
func filler(c *chance) []byte {
	b := make([]byte, c.below(12))
	for i := range b {
		b[i] = byte(c.below(256))
		if b[i] == 165 || c.below(3) == 0 {
			b[i] = 90
		}
	}
	return b
}

// loadOf is a load of any length, with marks, heads and frames in some.
func loadOf(c *chance) []byte {
	switch c.below(6) {
	case 0:
		return nil
	case 1:
		return bytes.Repeat([]byte{165, 90}, c.below(20))
	case 2:
		return join(framed(sample(c.below(9))), frameOf("a"))
	case 3:
		return join(sample(c.below(9)), []byte{165, 90, 4, 176})
	case 4:
		return sample(1200 - c.below(3))
	}
	return sample(c.below(300))
}

// P3.5: frames with such bytes between them are all found, and nothing else.
func TestAllFound(t *testing.T) {
	c := chance(13)
	for range 300 {
		b := filler(&c)
		between := len(b)
		var want [][]byte
		for range c.below(7) {
			load, gap := loadOf(&c), filler(&c)
			want = append(want, load)
			between += len(gap)
			f, err := frame.Encode(load)
			if err != api.OK {
				t.Fatal(err)
			}
			b = join(b, f, gap)
		}
		expectScan(t, "all", b, want, len(b))
		s := frame.New()
		expectStream(t, "all", s, s.Feed(b), want, 0, between)
		expectStream(t, "all, flushed", s, s.Flush(), nil, 0, between)
	}
}

// expectNotFound looks for a load in a spoilt frame, alone and with bytes behind it.
func expectNotFound(t *testing.T, load, spoilt []byte) {
	t.Helper()
	for _, behind := range [][]byte{nil, make([]byte, 1300)} {
		b := join(spoilt, behind)
		s := frame.New()
		scanned, _ := frame.Scan(b)
		for _, l := range slices.Concat(scanned, s.Feed(b), s.Flush()) {
			if bytes.Equal(l, load) {
				t.Errorf("found %q in %v", load, spoilt)
			}
		}
	}
}

// P3.6: one to four bytes that stand together are turned, at each place.
func TestTurned(t *testing.T) {
	c := chance(17)
	for _, load := range [][]byte{nil, []byte("a"), sample(5), frameOf("a"), bytes.Repeat([]byte{165, 90}, 6), make([]byte, 12)} {
		f, _ := frame.Encode(load)
		for at := range f {
			for by := 1; by < 256; by++ {
				expectNotFound(t, load, bent(f, at, byte(by)))
			}
		}
		for wide := 2; wide <= 4; wide++ {
			for at := 0; at+wide <= len(f); at++ {
				expectNotFound(t, load, bent(f, at, bytes.Repeat([]byte{255}, wide)...))
				for range 60 {
					by := make([]byte, wide)
					for i := range by {
						by[i] = byte(c.below(256))
					}
					by[0] = byte(1 + c.below(255))
					expectNotFound(t, load, bent(f, at, by...))
				}
			}
		}
	}
	load := sample(1200)
	f, _ := frame.Encode(load)
	for at := 0; at+4 <= len(f); at += 7 {
		expectNotFound(t, load, bent(f, at, byte(1+c.below(255)), byte(c.below(256)), byte(c.below(256)), byte(c.below(256))))
	}
}

// P3.7: as many bytes as a frame may have less one wait at most, and that many do.
func TestWaitsBounded(t *testing.T) {
	f := framed(sample(1200))
	s := frame.New()
	for i := range len(f) - 1 {
		expectStream(t, "byte by byte", s, s.Feed(f[i:i+1]), nil, i+1, 0)
	}
	if s.Waits() != api.MaxFrame-1 {
		t.Errorf("%d wait", s.Waits())
	}
	expectStream(t, "the last byte", s, s.Feed(f[len(f)-1:]), [][]byte{sample(1200)}, 0, 0)
	for _, b := range [][]byte{
		bytes.Repeat([]byte{165, 90, 4, 176}, 1000),
		bytes.Repeat([]byte{165}, 3000),
		bytes.Repeat([]byte{165, 90}, 2000),
		bytes.Repeat([]byte{165, 90, 4}, 1500),
		bytes.Repeat(f[:len(f)-1], 4),
	} {
		s := frame.New()
		for i := 0; i < len(b); i += 100 {
			s.Feed(b[i:min(i+100, len(b))])
			if s.Waits() >= api.MaxFrame {
				t.Fatalf("%d wait", s.Waits())
			}
		}
	}
}

// roomy is a copy with room behind it, filled with a byte that a write would turn.
func roomy(b []byte) []byte {
	c := append(slices.Clone(b), bytes.Repeat([]byte{0xEE}, 64)...)
	return c[:len(b)]
}

// expectKept says whether a list and the room behind it are as roomy made them.
func expectKept(t *testing.T, name string, got, b []byte) {
	t.Helper()
	if !bytes.Equal(got[:len(b)+64], append(slices.Clone(b), bytes.Repeat([]byte{0xEE}, 64)...)) {
		t.Errorf("%s: what was handed in, or the room behind it, was written into", name)
	}
}

// spoil writes over a list and all the room behind it.
func spoil(b []byte) {
	b = b[:cap(b)]
	for i := range b {
		b[i] = 0xDD
	}
}

// R4: what is handed in is not written into.
func TestArgumentsStay(t *testing.T) {
	load := []byte("load")
	given := roomy(load)
	frame.Encode(given)
	expectKept(t, "Encode", given, load)
	b := join([]byte{1, 165}, frameOf("a"), frameOf("bc"), []byte{165, 90, 0})
	given = roomy(b)
	frame.Scan(given)
	expectKept(t, "Scan", given, b)
	s := frame.New()
	for range 3 {
		given = roomy(b)
		s.Feed(given)
		s.Flush()
		s.Feed(given)
		expectKept(t, "Feed", given, b)
	}
}

// R4: what is handed in is not kept: a caller who writes over it turns nothing.
func TestArgumentsNotKept(t *testing.T) {
	load := roomy([]byte("load"))
	f, _ := frame.Encode(load)
	spoil(load)
	if !bytes.Equal(f, frameOf("load")) {
		t.Errorf("the frame turned: %v", f)
	}
	b := roomy(join(frameOf("a"), frameOf("bc")))
	loads, _ := frame.Scan(b)
	spoil(b)
	if !same(loads, list("a", "bc")) {
		t.Errorf("Scan's loads turned: %q", loads)
	}
	s, long := frame.New(), frameOf("a long load")
	var found [][]byte
	for i := range long {
		piece := roomy(long[i : i+1])
		found = append(found, s.Feed(piece)...)
		spoil(piece)
	}
	expectStream(t, "pieces written over", s, found, list("a long load"), 0, 0)
	piece := roomy(join([]byte{165, 90, 4, 176}, frameOf("a"), frameOf("bc")))
	s.Feed(piece)
	spoil(piece)
	expectStream(t, "a Flush of a piece written over", s, s.Flush(), list("a", "bc"), 0, 4)
}

// expectApart writes over each list and the room behind it, and looks whether another one turned.
func expectApart(t *testing.T, name string, loads [][]byte) {
	t.Helper()
	for i := range loads {
		before := make([][]byte, len(loads))
		for j := range loads {
			before[j] = slices.Clone(loads[j])
		}
		spoil(loads[i])
		for j := range loads {
			if i != j && !bytes.Equal(loads[j], before[j]) {
				t.Errorf("%s: load %d turned with load %d", name, j, i)
			}
		}
	}
}

// R4: what is answered is the caller's to write over, without turning anything else.
func TestAnswersApart(t *testing.T) {
	b := join(frameOf("a"), frameOf("bc"), frameOf("def"))
	kept := slices.Clone(b)
	loads, _ := frame.Scan(b)
	expectApart(t, "Scan", loads)
	if !bytes.Equal(b, kept) {
		t.Error("Scan's loads are pieces of its argument")
	}
	given := []byte("load")
	f, _ := frame.Encode(given)
	spoil(f)
	if string(given) != "load" {
		t.Error("Encode's frame is a piece of its argument")
	}
	again, _ := frame.Encode(given)
	if !bytes.Equal(again, frameOf("load")) {
		t.Errorf("Encode answers %v after its answer was written over", again)
	}
	s := frame.New()
	s.Feed(frameOf("x")[:4])
	found := s.Feed(join(frameOf("x")[4:], b, frameOf("last")[:9]))
	expectApart(t, "Feed", found)
	clear(found[:cap(found)])
	expectStream(t, "loads written over", s, s.Feed(frameOf("last")[9:]), list("last"), 0, 0)
	s.Feed(join([]byte{165, 90, 4, 176}, b))
	flushed := s.Flush()
	expectApart(t, "Flush", flushed)
	clear(flushed[:cap(flushed)])
	expectStream(t, "a Flush's loads written over", s, s.Feed(b), list("a", "bc", "def"), 0, 4)
	expectStream(t, "a Flush of nothing", s, s.Flush(), nil, 0, 4)
}

// R3: streams turn nothing of one another.
func TestStreamsApart(t *testing.T) {
	a, bc := frameOf("a"), frameOf("bc")
	s, other := frame.New(), frame.New()
	s.Feed(a[:5])
	other.Feed(join([]byte{1}, bc[:5]))
	expectStream(t, "the first", s, s.Feed(a[5:]), list("a"), 0, 0)
	expectStream(t, "the second", other, other.Feed(bc[5:]), list("bc"), 0, 1)
}
