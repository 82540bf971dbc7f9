package flt_test

import (
	"math"
	"math/big"
	"strings"
	"testing"
	"unsafe"

	"gantline/api"
	"gantline/dec"
	"gantline/flt"
)

const sign64 = uint64(1) << 63

// chance is a row of numbers that look like chance, the same ones each time.
type chance uint64

func (c *chance) next() uint64 {
	*c ^= *c << 13
	*c ^= *c >> 7
	*c ^= *c << 17
	return uint64(*c)
}

func (c *chance) below(n int) int { return int(c.next() % uint64(n)) }

// bits are bits of 64: many of them near to what a narrower format can tell.
func (c *chance) bits() uint64 {
	n := c.next()
	switch c.below(6) {
	case 0:
		return n
	case 1: // the exponents of 32 bits and those beside them
		n = n&^(0x7FF<<52) | uint64(870+c.below(290))<<52
	case 2: // the exponents of 16 bits and those beside them
		n = n&^(0x7FF<<52) | uint64(995+c.below(50))<<52
	case 3:
		n |= 0x7FF << 52
	case 4:
		n &^= 0x7FF << 52
	}
	return n &^ (1<<c.below(64) - 1) &^ (1<<c.below(53) - 1)
}

// shape is a format in the document's words: how many bytes, and bits of the exponent and of the fraction.
type shape struct{ bytes, exponent, fraction int }

func shapes() []shape { return []shape{{2, 5, 10}, {4, 8, 23}, {8, 11, 52}} }

// meaning is what bits mean: no number, without bound, or a number; and whether the sign is set.
type meaning struct {
	kind string
	low  bool
	f    uint64   // of no number: its fraction
	size *big.Rat // of a number: what it is without its sign
}

// twos is 2 to the power of n.
func twos(n int) *big.Rat {
	if n < 0 {
		return new(big.Rat).Inv(twos(-n))
	}
	return new(big.Rat).SetInt(new(big.Int).Lsh(big.NewInt(1), uint(n)))
}

// meant is the document's section 'Words', digit by digit.
func meant(s shape, n uint64) meaning {
	m := 1<<s.exponent - 1
	w := s.fraction
	f := n % (1 << w)
	x := int(n >> w % (1 << s.exponent))
	means := meaning{kind: "number", low: n>>(s.exponent+s.fraction) == 1}
	size := func(n uint64) *big.Rat { return new(big.Rat).SetInt(new(big.Int).SetUint64(n)) }
	switch {
	case x == m && f != 0:
		means.kind = "none"
		means.f = f
	case x == m:
		means.kind = "unbound"
	case x == 0:
		means.size = size(f)
		means.size.Mul(means.size, twos(2-(m+1)/2-w))
	default:
		means.size = size(1<<w + f)
		means.size.Mul(means.size, twos(x-(m-1)/2-w))
	}
	return means
}

// narrowed is what the document asks of Narrow, told by the library's own numbers of 32 and 64 bits, and by all bits of 16.
func narrowed(halves map[uint64]uint64, n uint64) (uint64, int) {
	if short, ok := halves[n]; ok {
		return short, 2
	}
	v := math.Float64frombits(n)
	if math.IsNaN(v) {
		if n%(1<<29) == 0 {
			return n>>63<<31 | 0xFF<<23 | n>>29%(1<<23), 4
		}
		return n, 8
	}
	short := float32(v)
	if math.Float64bits(float64(short)) == n {
		return uint64(math.Float32bits(short)), 4
	}
	return n, 8
}

// widened is what the document asks of Widen, by the number that bits mean.
func widened(s shape, n uint64) uint64 {
	means := meant(s, n)
	var to uint64
	switch means.kind {
	case "none":
		to = 0x7FF<<52 | means.f<<(52-s.fraction)
	case "unbound":
		to = 0x7FF << 52
	default:
		v, _ := means.size.Float64()
		to = math.Float64bits(v)
	}
	if means.low {
		to |= sign64
	}
	return to
}

// allHalves are all bits of 16, by what they are widened to.
func allHalves() map[uint64]uint64 {
	halves := make(map[uint64]uint64)
	for n := range uint64(1 << 16) {
		halves[widened(shapes()[0], n)] = n
	}
	return halves
}

// exact is what the document asks of Exact, by the rational number that bits mean.
func exact(n uint64) (api.Number, api.Errno) {
	means := meant(shapes()[2], n)
	if means.kind != "number" {
		return api.Number{}, api.ErrKind
	}
	if means.size.Sign() == 0 {
		return api.Number{Digits: "0"}, api.OK
	}
	// 1100 places behind the point are more than any of these numbers has.
	text := means.size.FloatString(1100)
	digits := strings.TrimLeft(strings.Replace(text, ".", "", 1), "0")
	short := strings.TrimRight(digits, "0")
	return api.Number{Neg: means.low, Digits: short, Exp: len(digits) - len(short) - 1100}, api.OK
}

// edges are the bits of 64 that stand at the formats' edges, and their neighbours, of either sign.
func edges() []uint64 {
	var all []uint64
	for _, s := range shapes() {
		for _, n := range edgesOf(s) {
			wide := widened(s, n)
			all = append(all, wide, wide+1, max(wide, 1)-1)
			for bit := range 64 {
				all = append(all, wide^1<<bit)
			}
			// Twice and half of it.
			all = append(all, wide+1<<52, max(wide, 1<<52)-1<<52)
		}
	}
	for _, n := range all {
		all = append(all, n^sign64)
	}
	return all
}

// edgesOf are the bits at a format's edges, without the sign.
func edgesOf(s shape) []uint64 {
	one := uint64(1) << s.fraction
	top := one << s.exponent
	return []uint64{
		0, 1, 2, one/2 - 1, one / 2, one - 1, // the exponent's bits are 0
		one, one + 1, 2*one - 1, 2 * one, // the least ones whose are not
		top/2 - one, top/2 - 1, top / 2, // 1 and 2
		top - 2*one, top - one - 1, // the greatest number
		top - one,                                 // without bound
		top - one + 1, top - one + one/2, top - 1, // no number
	}
}

// TestExamples: the chapter's examples, and what is known of binary numbers (P7.1, P7.2, P7.3).
func TestExamples(t *testing.T) {
	rows := []struct {
		n     uint64
		width int
		want  uint64
	}{
		{0x3C00, 2, 0x3FF0000000000000}, // 1
		{0x3F800000, 4, 0x3FF0000000000000},
		{0, 2, 0}, {0x8000, 2, sign64}, {0, 4, 0}, {0x80000000, 4, sign64},
		{0x0001, 2, 0x3E70000000000000}, // 2^-24
		{0x0002, 2, 0x3E80000000000000},
		{0x0003, 2, 0x3E88000000000000},
		{0x03FF, 2, 0x3F0FF80000000000}, // the greatest whose exponent's bits are 0
		{0x0400, 2, 0x3F10000000000000}, // 2^-14
		{0x7BFF, 2, 0x40EFFC0000000000}, // 65504
		{0xFBFF, 2, 0xC0EFFC0000000000},
		{0x7C00, 2, 0x7FF0000000000000}, {0xFC00, 2, 0xFFF0000000000000},
		{0x7C01, 2, 0x7FF0040000000000}, {0xFC01, 2, 0xFFF0040000000000},
		{0x7E00, 2, 0x7FF8000000000000}, {0x7FFF, 2, 0x7FFFFC0000000000},
		{0x00000001, 4, 0x36A0000000000000}, // 2^-149
		{0x007FFFFF, 4, 0x380FFFFFC0000000},
		{0x00800000, 4, 0x3810000000000000}, // 2^-126
		{0x7F7FFFFF, 4, 0x47EFFFFFE0000000},
		{0x7F800000, 4, 0x7FF0000000000000}, {0xFF800000, 4, 0xFFF0000000000000},
		{0x7F800001, 4, 0x7FF0000020000000}, {0xFFC00000, 4, 0xFFF8000000000000}, {0x7FFFFFFF, 4, 0x7FFFFFFFE0000000},
		{1, 8, 1}, {math.MaxUint64, 8, math.MaxUint64}, {0x3FF0000000000000, 8, 0x3FF0000000000000},
	}
	for _, w := range rows {
		if got, err := flt.Widen(w.n, w.width); got != w.want || err != api.OK {
			t.Errorf("Widen(%X, %d) is %X, %v, asked is %X", w.n, w.width, got, err, w.want)
		}
	}
	numbers := []struct {
		n    uint64
		want api.Number
	}{
		{0, api.Number{Digits: "0"}}, {sign64, api.Number{Digits: "0"}},
		{0x3FF0000000000000, api.Number{Digits: "1"}},
		{0xBFF8000000000000, api.Number{Neg: true, Digits: "15", Exp: -1}},
		{0x3FE0000000000000, api.Number{Digits: "5", Exp: -1}},
		{0x4024000000000000, api.Number{Digits: "1", Exp: 1}},
		{0x3FB999999999999A, api.Number{Digits: "1000000000000000055511151231257827021181583404541015625", Exp: -55}},
		{0x4340000000000001, api.Number{Digits: "9007199254740994"}},
		{0x433FFFFFFFFFFFFF, api.Number{Digits: "9007199254740991"}},
	}
	for _, n := range numbers {
		if got, err := flt.Exact(n.n); got != n.want || err != api.OK {
			t.Errorf("Exact(%X) is %v, %v, asked is %v", n.n, got, err, n.want)
		}
	}
	if got, _ := flt.Exact(0x3FB999999999999A); len(got.Digits) != 55 {
		t.Errorf("Exact(3FB999999999999A) has %d Digits, asked are 55", len(got.Digits))
	}
}

// TestWidenHalves: P7.1 for all bits of 16, and P7.2, P7.4 there and back.
func TestWidenHalves(t *testing.T) {
	for n := range uint64(1 << 16) {
		wide, err := flt.Widen(n, 2)
		if err != api.OK || wide != widened(shapes()[0], n) {
			t.Fatalf("Widen(%X, 2) is %X, %v", n, wide, err)
		}
		if short, width := flt.Narrow(wide); short != n || width != 2 {
			t.Fatalf("Narrow(%X) is %X, %d, asked is %X, 2", wide, short, width, n)
		}
	}
}

// TestWidenWords: P7.1 for bits of 32 at the edges, with one bit each, and many others; P7.4 back again.
func TestWidenWords(t *testing.T) {
	halves := allHalves()
	try := func(n uint64) {
		t.Helper()
		wide, err := flt.Widen(n, 4)
		if err != api.OK || wide != widened(shapes()[1], n) {
			t.Fatalf("Widen(%X, 4) is %X, %v", n, wide, err)
		}
		short, width := flt.Narrow(wide)
		if half, ok := halves[wide]; ok {
			if short != half || width != 2 {
				t.Fatalf("Narrow(%X) is %X, %d, asked is %X, 2", wide, short, width, half)
			}
		} else if short != n || width != 4 {
			t.Fatalf("Narrow(%X) is %X, %d, asked is %X, 4", wide, short, width, n)
		}
	}
	for _, n := range edgesOf(shapes()[1]) {
		for bit := range 32 {
			try(n ^ 1<<bit)
		}
		try(n)
	}
	c := chance(71)
	for range 20000 {
		n := c.next() >> 32
		try(n)
		try(n &^ (0xFF << 23))
		try(n >> c.below(32))
		try(n &^ (1<<c.below(32) - 1))
	}
}

// TestWidenWhole: bits of 64 are answered as they are (P7.1).
func TestWidenWhole(t *testing.T) {
	c := chance(72)
	all := edges()
	for range 1000 {
		all = append(all, c.bits())
	}
	for _, n := range all {
		if got, err := flt.Widen(n, 8); got != n || err != api.OK {
			t.Fatalf("Widen(%X, 8) is %X, %v", n, got, err)
		}
	}
}

// TestWidenWrong: widths that are none, and bits that have no room (P7.1, R1).
func TestWidenWrong(t *testing.T) {
	for _, width := range []int{0, 1, 3, 5, 6, 7, 9, 10, 16, 32, 64, -1, -2, -4, -8, math.MinInt, math.MinInt + 2, math.MinInt + 8, math.MaxInt, math.MaxInt - 1} {
		for _, n := range []uint64{0, 1, 0x3C00, 0x3F800000, sign64, math.MaxUint64} {
			if got, err := flt.Widen(n, width); got != 0 || err != api.ErrArg {
				t.Errorf("Widen(%X, %d) is %X, %v, asked is ErrArg", n, width, got, err)
			}
		}
	}
	for _, width := range []int{2, 4} {
		for bit := 8 * width; bit < 64; bit++ {
			for _, n := range []uint64{1 << bit, 1<<bit | 0x3C00, 1<<bit + (1<<bit - 1), math.MaxUint64, math.MaxUint64 << (8 * width)} {
				if got, err := flt.Widen(n, width); got != 0 || err != api.ErrArg {
					t.Errorf("Widen(%X, %d) is %X, %v, asked is ErrArg", n, width, got, err)
				}
			}
		}
		if _, err := flt.Widen(1<<(8*width)-1, width); err != api.OK {
			t.Errorf("all bits of %d bytes have no room in them", width)
		}
	}
}

// TestNarrowExamples: numbers that are just a format's, and ones that miss it by a bit or an exponent (P7.2).
func TestNarrowExamples(t *testing.T) {
	for _, x := range []struct {
		n     uint64
		want  uint64
		width int
	}{
		{0, 0, 2}, {sign64, 0x8000, 2},
		{0x3FF0000000000000, 0x3C00, 2},
		{0x3FF0040000000000, 0x3C01, 2}, // the lowest bit of the fraction of 16
		{0x3FF0020000000000, 0x3F801000, 4},
		{0x3FF0000020000000, 0x3F800001, 4}, // the lowest bit of the fraction of 32
		{0x3FF0000010000000, 0x3FF0000010000000, 8},
		{0x40EFFC0000000000, 0x7BFF, 2},     // the greatest of 16
		{0x40FFFC0000000000, 0x47FFE000, 4}, // twice as much
		{0x40EFFE0000000000, 0x477FF000, 4},
		{0x40F0000000000000, 0x47800000, 4}, // 65536
		{0x3E70000000000000, 0x0001, 2},     // the least of 16
		{0x3E60000000000000, 0x33000000, 4}, // half as much
		{0x3E78000000000000, 0x33C00000, 4}, // half as much again
		{0x3F0FF80000000000, 0x03FF, 2}, {0x3F0FFC0000000000, 0x387FE000, 4},
		{0x3F10000000000000, 0x0400, 2},
		{0x47EFFFFFE0000000, 0x7F7FFFFF, 4}, // the greatest of 32
		{0x47FFFFFFE0000000, 0x47FFFFFFE0000000, 8},
		{0x47EFFFFFF0000000, 0x47EFFFFFF0000000, 8},
		{0x47F0000000000000, 0x47F0000000000000, 8}, // 2^128
		{0x36A0000000000000, 0x00000001, 4},         // the least of 32
		{0x3690000000000000, 0x3690000000000000, 8},
		{0x36A8000000000000, 0x36A8000000000000, 8},
		{0x380FFFFFC0000000, 0x007FFFFF, 4}, {0x380FFFFFE0000000, 0x380FFFFFE0000000, 8},
		{0x3810000000000000, 0x00800000, 4},
		{1, 1, 8}, {sign64 + 1, sign64 + 1, 8}, {0x000FFFFFFFFFFFFF, 0x000FFFFFFFFFFFFF, 8},
		{0x0008000000000000, 0x0008000000000000, 8}, {0x0010000000000000, 0x0010000000000000, 8},
		{0x7FEFFFFFFFFFFFFF, 0x7FEFFFFFFFFFFFFF, 8}, {0x7FE0000000000000, 0x7FE0000000000000, 8},
		{0x7FF0000000000000, 0x7C00, 2}, {0xFFF0000000000000, 0xFC00, 2},
		{0x7FF8000000000000, 0x7E00, 2}, {0xFFF8000000000000, 0xFE00, 2},
		{0x7FF0040000000000, 0x7C01, 2}, {0x7FF0020000000000, 0x7F801000, 4},
		{0x7FF0060000000000, 0x7F803000, 4},
		{0x7FF0000020000000, 0x7F800001, 4}, {0x7FF0000010000000, 0x7FF0000010000000, 8},
		{0x7FF0000030000000, 0x7FF0000030000000, 8},
		{0x7FF0000000000001, 0x7FF0000000000001, 8}, {math.MaxUint64, math.MaxUint64, 8},
		{0x7FFFFC0000000000, 0x7FFF, 2}, {0xFFFFFFFFE0000000, 0xFFFFFFFF, 4},
	} {
		if got, width := flt.Narrow(x.n); got != x.want || width != x.width {
			t.Errorf("Narrow(%X) is %X, %d, asked is %X, %d", x.n, got, width, x.want, x.width)
		}
	}
}

// TestNarrowModel: P7.2 and P7.4 against the library's own numbers, at the edges and for many others.
func TestNarrowModel(t *testing.T) {
	halves := allHalves()
	if len(halves) != 1<<16 {
		t.Fatalf("the model has %d bits of 16", len(halves))
	}
	c := chance(73)
	all := edges()
	for range 200000 {
		all = append(all, c.bits())
	}
	widths := make(map[int]int)
	for _, n := range all {
		got, width := flt.Narrow(n)
		if want, w := narrowed(halves, n); got != want || width != w {
			t.Fatalf("Narrow(%X) is %X, %d, asked is %X, %d", n, got, width, want, w)
		}
		if back, err := flt.Widen(got, width); back != n || err != api.OK {
			t.Fatalf("Widen(%X, %d) is %X, %v, but was narrowed of %X", got, width, back, err, n)
		}
		widths[width]++
	}
	for _, width := range []int{2, 4, 8} {
		if widths[width] < 1000 {
			t.Errorf("only %d bits were narrowed to %d bytes", widths[width], width)
		}
	}
}

// TestFiniteNegative: P7.3, also of no number and without bound.
func TestFiniteNegative(t *testing.T) {
	c := chance(74)
	all := edges()
	for range 20000 {
		all = append(all, c.bits())
	}
	for _, n := range all {
		means := meant(shapes()[2], n)
		if got := flt.Finite(n); got != (means.kind == "number") {
			t.Fatalf("Finite(%X) is %v, its bits are: %s", n, got, means.kind)
		}
		if got := flt.Negative(n); got != (n >= sign64) {
			t.Fatalf("Negative(%X) is %v", n, got)
		}
	}
}

// TestExactEdges: the least and the greatest numbers, and the longest ones (P7.3).
func TestExactEdges(t *testing.T) {
	for _, x := range []struct {
		n      uint64
		digits int
		begin  string
		end    string
		exp    int
	}{
		{1, 751, "49406564584124654417", "3447265625", -1074},
		{0x000FFFFFFFFFFFFF, 767, "22250738585072008890", "6552734375", -1074},
		{0x001FFFFFFFFFFFFF, 767, "44501477170144022721", "6552734375", -1074},
		{0x0010000000000000, 715, "22250738585072013830", "6728515625", -1022},
		{0x7FEFFFFFFFFFFFFF, 309, "17976931348623157081", "4124858368", 0},
	} {
		got, err := flt.Exact(x.n)
		if err != api.OK || got.Neg || len(got.Digits) != x.digits || got.Exp != x.exp || !strings.HasPrefix(got.Digits, x.begin) || !strings.HasSuffix(got.Digits, x.end) {
			t.Errorf("Exact(%X) is %v, %v: %d Digits", x.n, got, err, len(got.Digits))
		}
	}
}

// TestExactNone: ErrKind of no number and without bound, with either sign (P7.3, R1).
func TestExactNone(t *testing.T) {
	for _, n := range []uint64{0x7FF0000000000000, 0x7FF0000000000001, 0x7FF8000000000000, 0x7FFFFFFFFFFFFFFF, 0x7FF0040000000000} {
		for _, n := range []uint64{n, n ^ sign64} {
			if got, err := flt.Exact(n); got != (api.Number{}) || err != api.ErrKind {
				t.Errorf("Exact(%X) is %v, %v, asked is ErrKind", n, got, err)
			}
		}
	}
}

// TestExactModel: P7.3 against rational numbers, at the edges, of all bits of 16, and for many others.
func TestExactModel(t *testing.T) {
	c := chance(75)
	all := edges()
	for n := range uint64(1 << 16) {
		if n%7 == 0 {
			wide, _ := flt.Widen(n, 2)
			all = append(all, wide)
		}
	}
	for range 3000 {
		all = append(all, c.bits())
	}
	for _, n := range all {
		got, err := flt.Exact(n)
		if want, why := exact(n); got != want || err != why {
			t.Fatalf("Exact(%X) is %v, %v, asked is %v, %v", n, got, err, want, why)
		}
		if err == api.OK && !dec.Right(got) {
			t.Fatalf("Exact(%X) is %v, not in its form", n, got)
		}
	}
}

// order is how the numbers of two bits of 64 stand.
func order(t *testing.T, a, b uint64) int {
	t.Helper()
	x, _ := flt.Exact(a)
	y, _ := flt.Exact(b)
	order, err := dec.Order(x, y)
	if err != api.OK {
		t.Fatalf("Exact(%X) or Exact(%X) is no number", a, b)
	}
	return order
}

// TestOrder: of two numbers whose sign is not set the greater bits are the greater number (P7.5).
func TestOrder(t *testing.T) {
	c := chance(76)
	var all []uint64
	for _, n := range edges() {
		if flt.Finite(n) {
			all = append(all, n&^sign64)
		}
	}
	for i, a := range all {
		b := all[c.below(len(all))]
		if i%3 == 0 && flt.Finite(a+1) {
			b = a + 1
		}
		want := 0
		if a > b {
			want = 1
		} else if a < b {
			want = -1
		}
		if got := order(t, a, b); got != want {
			t.Fatalf("the numbers of %X and %X stand %d", a, b, got)
		}
	}
}

// TestOrderOfFormats: P7.5 also of the bits of the narrow formats, when they are widened.
func TestOrderOfFormats(t *testing.T) {
	for _, s := range shapes()[:2] {
		step := uint64(1)<<(s.fraction-7) + 1
		last := uint64(0)
		for n := uint64(1); n < 1<<s.fraction*(1<<s.exponent-1); n += step {
			wide, _ := flt.Widen(n, s.bytes)
			if wide <= last || order(t, last, wide) != -1 {
				t.Fatalf("Widen(%X, %d) is %X, not more than %X", n, s.bytes, wide, last)
			}
			last = wide
		}
	}
}

// TestSign: the sign turns only the number's sign (P7.6), in all calls.
func TestSign(t *testing.T) {
	c := chance(77)
	all := edges()
	for range 3000 {
		all = append(all, c.bits())
	}
	for _, n := range all {
		turned := n ^ sign64
		if flt.Finite(n) != flt.Finite(turned) || flt.Negative(n) == flt.Negative(turned) {
			t.Fatalf("the sign of %X turns more or less than it", n)
		}
		x, err := flt.Exact(n)
		y, why := flt.Exact(turned)
		if x.Digits != y.Digits || x.Exp != y.Exp || err != why {
			t.Fatalf("Exact(%X) is %v, %v, Exact(%X) is %v, %v", n, x, err, turned, y, why)
		}
		if zero := x.Digits == "0"; err == api.OK && !zero && (x.Neg != flt.Negative(n) || y.Neg != flt.Negative(turned)) || zero && (x.Neg || y.Neg) {
			t.Fatalf("Exact(%X) is %v, Exact(%X) is %v", n, x, turned, y)
		}
		short, width := flt.Narrow(n)
		other, same := flt.Narrow(turned)
		if width != same || short^other != 1<<(8*width-1) {
			t.Fatalf("Narrow(%X) is %X, %d, Narrow(%X) is %X, %d", n, short, width, turned, other, same)
		}
		if wide, err := flt.Widen(other, width); wide != turned || err != api.OK {
			t.Fatalf("Widen(%X, %d) is %X, %v", other, width, wide, err)
		}
	}
}

// TestAnswers: the same bits have the same answers, each of new memory (R3, R4).
func TestAnswers(t *testing.T) {
	for _, n := range []uint64{0x3FF0000000000000, 0x3FB999999999999A, 1, 0x7FEFFFFFFFFFFFFF} {
		a, _ := flt.Exact(n)
		flt.Exact(n + 1)
		b, _ := flt.Exact(n)
		if a != b {
			t.Errorf("Exact(%X) is %v, then %v", n, a, b)
		}
		if len(a.Digits) > 1 && unsafe.StringData(a.Digits) == unsafe.StringData(b.Digits) {
			t.Errorf("two answers of Exact(%X) share memory", n)
		}
	}
}
