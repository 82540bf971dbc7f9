package nat_test

import (
	"bytes"
	"math"
	"math/big"
	"slices"
	"strings"
	"testing"

	"gantline/api"
	"gantline/nat"
)

// most is how many digits a number has at most, as the document says it.
const most = 800

// chance is a row of numbers that look like chance, the same ones each time.
type chance uint64

func (c *chance) next() uint64 {
	*c ^= *c << 13
	*c ^= *c >> 7
	*c ^= *c << 17
	return uint64(*c)
}

func (c *chance) below(n int) int { return int(c.next() % uint64(n)) }

// number is a number of so many digits, often with rows of 0 and 9.
func (c *chance) number(digits int) string {
	b := make([]byte, digits)
	kind := c.below(4)
	for i := range b {
		switch {
		case kind == 0 && c.below(8) > 0:
			b[i] = '0'
		case kind == 1 && c.below(8) > 0:
			b[i] = '9'
		default:
			b[i] = byte('0' + c.below(10))
		}
	}
	if digits > 1 && b[0] == '0' {
		b[0] = byte('1' + c.below(9))
	}
	return string(b)
}

// size is a count of digits, small ones and the greatest most often.
func (c *chance) size() int {
	switch c.below(4) {
	case 0:
		return 1 + c.below(most)
	case 1:
		return most - c.below(8)
	}
	return 1 + c.below(20)
}

func zeros(n int) string { return strings.Repeat("0", n) }
func nines(n int) string { return strings.Repeat("9", n) }

// ten is 10 to the power of n, as digits.
func ten(n int) string { return "1" + zeros(n) }

func bigOf(t *testing.T, s string) *big.Int {
	t.Helper()
	n, ok := new(big.Int).SetString(s, 10)
	if !ok {
		t.Fatalf("%q is no number of the model", s)
	}
	return n
}

// told is what the document asks for a number that comes of right arguments.
func told(n *big.Int) (string, api.Errno) {
	if s := n.String(); len(s) <= most {
		return s, api.OK
	}
	return "", api.ErrNum
}

// edges are numbers at the edges of digits, groups, bytes and words.
func edges() []string {
	out := []string{
		"0", "1", "2", "5", "9", "10", "11", "99", "100", "101", "255", "256", "257",
		"65535", "65536", "99999", "100000", "999999", "1000000", "1000001", "1999999", "2000000",
		"999999999999", "1000000000000", "1000000000001", "999999000000", "1000000999999",
		"9223372036854775807", "9223372036854775808", "18446744073709551615", "18446744073709551616",
		nines(399), nines(400), nines(401), ten(398), ten(399), ten(400),
		nines(798), nines(799), nines(800), ten(798), ten(799),
		"1" + zeros(798) + "1", nines(799) + "8", "4" + nines(799), "5" + zeros(799), "49" + nines(798),
	}
	for digits := 5; digits <= 14; digits++ {
		out = append(out, nines(digits), ten(digits), "1"+zeros(digits-1)+"1")
	}
	return out
}

// wrongs are texts that are no numbers.
func wrongs() []string {
	out := []string{
		"", " ", "+", "-", ".", "00", "01", "007", zeros(799) + "1", zeros(800), "+1", "-1", "-0", "+0",
		" 1", "1 ", "1 1", "1.", ".1", "1.0", "1e3", "1E3", "1_000", "1,000", "0x10", "0b1", "0o7", "a", "1a", "a1",
		"1\n", "\t1", "1\x00", "\x00", "/", ":", "1/", "1:", "/1", ":1", "\x80", "1\xff", "\xb1", "1\xb0", "\u0661", "1\u0660", "\uff11",
		ten(800), nines(801), zeros(801), "1" + zeros(900), nines(100000),
		nines(799) + "a", nines(400) + "\x80" + nines(399), " " + nines(799),
	}
	// Each byte that is no digit, alone, ahead, in between and behind.
	for x := range 256 {
		if x >= '0' && x <= '9' {
			continue
		}
		s := string([]byte{byte(x)})
		out = append(out, s, s+"1", "1"+s+"1", "12345678"+s, "1"+s+"0", "0"+s)
	}
	return out
}

// The document's examples, and others.
func TestExamples(t *testing.T) {
	if s, why := nat.Mul("999", "999"); s != "998001" || why != api.OK {
		t.Error("Mul", s, why)
	}
	if s, why := nat.FromBytes([]byte{1, 0}); s != "256" || why != api.OK {
		t.Error("FromBytes", s, why)
	}
	if s, why := nat.Add("999", "1"); s != "1000" || why != api.OK {
		t.Error("Add", s, why)
	}
	if s, why := nat.Sub("1000", "1"); s != "999" || why != api.OK {
		t.Error("Sub", s, why)
	}
	if s, rest, why := nat.Div("1000", 7); s != "142" || rest != 6 || why != api.OK {
		t.Error("Div", s, rest, why)
	}
	if s, why := nat.Power(2, 64); s != "18446744073709551616" || why != api.OK {
		t.Error("Power", s, why)
	}
	if b, why := nat.ToBytes("65537"); !slices.Equal(b, []byte{1, 0, 1}) || why != api.OK {
		t.Error("ToBytes", b, why)
	}
}

// P5.1: what a number is.
func TestRight(t *testing.T) {
	for _, s := range edges() {
		if !nat.Right(s) {
			t.Errorf("Right(%q) is false", s)
		}
	}
	for d := range 10 {
		s := string([]byte{byte('0' + d)})
		if !nat.Right(s) || !nat.Right("1"+s) {
			t.Error("a digit is refused:", d)
		}
		if nat.Right("0" + s) {
			t.Error("a needless 0 is taken ahead of", d)
		}
	}
	for _, s := range wrongs() {
		if nat.Right(s) {
			t.Errorf("Right(%.20q) is true", s)
		}
	}
}

// P5.1: Order, and that it is the order of the numbers.
func TestOrder(t *testing.T) {
	all := edges()
	c := chance(1)
	for range 40 {
		all = append(all, c.number(c.size()))
	}
	for _, a := range all {
		for _, b := range all {
			want := bigOf(t, a).Cmp(bigOf(t, b))
			if got, why := nat.Order(a, b); got != want || why != api.OK {
				t.Fatalf("Order(%s, %s) is %d, %d; asked is %d", a, b, got, why, want)
			}
		}
	}
}

// pairs calls do with numbers two by two: edges and others, also ones whose sum or product has just 800 digits, and 801.
func pairs(do func(a, b string)) {
	all := edges()
	for _, a := range all {
		for _, b := range all {
			do(a, b)
		}
	}
	c := chance(2)
	for range 400 {
		do(c.number(c.size()), c.number(c.size()))
	}
	for range 200 {
		n := 1 + c.below(most)
		a := c.number(n)
		do(a, c.number(most-n+1))
		do(a, c.number(max(most-n, 1)))
		do(a, c.number(min(most-n+2, most)))
	}
	for range 50 {
		do(c.number(most), c.number(most))
		do(nines(1+c.below(most)), nines(1+c.below(most)))
	}
}

// P5.1: Add, and P5.4: a sum hangs on no order.
func TestAdd(t *testing.T) {
	pairs(func(a, b string) {
		want, wantWhy := told(new(big.Int).Add(bigOf(t, a), bigOf(t, b)))
		if got, why := nat.Add(a, b); got != want || why != wantWhy {
			t.Fatalf("Add(%s, %s) is %s, %d; asked is %s, %d", a, b, got, why, want, wantWhy)
		}
		if got, why := nat.Add(b, a); got != want || why != wantWhy {
			t.Fatalf("Add(%s, %s) is other than the other way round: %s, %d", b, a, got, why)
		}
	})
}

// P5.1: sums of just 800 digits, and of 801.
func TestAddLong(t *testing.T) {
	for _, x := range []struct {
		a, b, want string
		why        api.Errno
	}{
		{nines(800), "0", nines(800), api.OK},
		{nines(800), "1", "", api.ErrNum},
		{nines(799) + "8", "1", nines(800), api.OK},
		{nines(799), "1", ten(799), api.OK},
		{"5" + zeros(799), "4" + nines(799), nines(800), api.OK},
		{"5" + zeros(799), "5" + zeros(799), "", api.ErrNum},
		{nines(800), nines(800), "", api.ErrNum},
		{"0", "0", "0", api.OK},
		{"0", "1", "1", api.OK},
	} {
		if got, why := nat.Add(x.a, x.b); got != x.want || why != x.why {
			t.Errorf("Add(%s, %s) is %s, %d", x.a, x.b, got, why)
		}
		if got, why := nat.Add(x.b, x.a); got != x.want || why != x.why {
			t.Errorf("Add(%s, %s) is %s, %d", x.b, x.a, got, why)
		}
	}
}

// P5.1: Sub, ErrArg where a is below b, and P5.4: a difference and what was taken are the number.
func TestSub(t *testing.T) {
	check := func(a, b string) {
		left := new(big.Int).Sub(bigOf(t, a), bigOf(t, b))
		got, why := nat.Sub(a, b)
		if left.Sign() < 0 {
			if got != "" || why != api.ErrArg {
				t.Fatalf("Sub(%s, %s) is %s, %d; asked is ErrArg", a, b, got, why)
			}
			return
		}
		if got != left.String() || why != api.OK {
			t.Fatalf("Sub(%s, %s) is %s, %d; asked is %s", a, b, got, why, left)
		}
		if again, why := nat.Add(got, b); again != a || why != api.OK {
			t.Fatalf("%s and %s are not %s, but %s, %d", got, b, a, again, why)
		}
	}
	pairs(func(a, b string) {
		check(a, b)
		check(b, a)
		check(a, a)
	})
	// Numbers that are nearly alike: what is left has few digits.
	c := chance(3)
	for range 300 {
		a := c.number(1 + c.below(most-1))
		if b, why := nat.Add(a, c.number(1+c.below(9))); why == api.OK {
			check(b, a)
			check(a, b)
		}
	}
	for _, a := range edges() {
		if got, why := nat.Sub(a, a); got != "0" || why != api.OK {
			t.Errorf("Sub(%s, %s) is %q, %d", a, a, got, why)
		}
		if got, why := nat.Sub(a, "0"); got != a || why != api.OK {
			t.Errorf("Sub(%s, 0) is %q, %d", a, got, why)
		}
	}
}

// P5.1: Mul, and P5.4: a product hangs on no order.
func TestMul(t *testing.T) {
	pairs(func(a, b string) {
		want, wantWhy := told(new(big.Int).Mul(bigOf(t, a), bigOf(t, b)))
		if got, why := nat.Mul(a, b); got != want || why != wantWhy {
			t.Fatalf("Mul(%s, %s) is %s, %d; asked is %s, %d", a, b, got, why, want, wantWhy)
		}
		if got, why := nat.Mul(b, a); got != want || why != wantWhy {
			t.Fatalf("Mul(%s, %s) is other than the other way round: %s, %d", b, a, got, why)
		}
	})
}

// P5.1: products of just 800 digits, and of 801.
func TestMulLong(t *testing.T) {
	for _, x := range []struct {
		a, b, want string
		why        api.Errno
	}{
		{nines(800), "1", nines(800), api.OK},
		{nines(800), "0", "0", api.OK},
		{nines(800), "2", "", api.ErrNum},
		{ten(799), "9", "9" + zeros(799), api.OK},
		{ten(799), "10", "", api.ErrNum},
		{ten(400), ten(399), ten(799), api.OK},
		{ten(400), ten(400), "", api.ErrNum},
		{nines(400), nines(400), nines(399) + "8" + zeros(399) + "1", api.OK},
		{nines(401), nines(400), "", api.ErrNum},
		{nines(800), nines(800), "", api.ErrNum},
		{strings.Repeat("3", 800), "3", nines(800), api.OK},
		{strings.Repeat("3", 799) + "4", "3", "", api.ErrNum},
		{"0", "0", "0", api.OK},
		{"1", "1", "1", api.OK},
	} {
		if got, why := nat.Mul(x.a, x.b); got != x.want || why != x.why {
			t.Errorf("Mul(%s, %s) is %s, %d", x.a, x.b, got, why)
		}
		if got, why := nat.Mul(x.b, x.a); got != x.want || why != x.why {
			t.Errorf("Mul(%s, %s) is %s, %d", x.b, x.a, got, why)
		}
	}
}

// P5.1: ErrArg where one of two is no number, also where what comes would be too long; with it every other result is 0 (R1).
func TestTwoWrong(t *testing.T) {
	rights := []string{"0", "1", "12", nines(800)}
	check := func(a, b string) {
		if n, why := nat.Order(a, b); n != 0 || why != api.ErrArg {
			t.Errorf("Order(%.20q, %.20q) is %d, %d", a, b, n, why)
		}
		if s, why := nat.Add(a, b); s != "" || why != api.ErrArg {
			t.Errorf("Add(%.20q, %.20q) is %q, %d", a, b, s, why)
		}
		if s, why := nat.Sub(a, b); s != "" || why != api.ErrArg {
			t.Errorf("Sub(%.20q, %.20q) is %q, %d", a, b, s, why)
		}
		if s, why := nat.Mul(a, b); s != "" || why != api.ErrArg {
			t.Errorf("Mul(%.20q, %.20q) is %q, %d", a, b, s, why)
		}
	}
	for _, wrong := range wrongs() {
		for _, right := range rights {
			check(wrong, right)
			check(right, wrong)
		}
		check(wrong, wrong)
	}
}

// divisors are those at the edges, and others.
func divisors() []int {
	out := []int{1, 2, 3, 7, 9, 10, 11, 16, 99, 100, 101, 255, 256, 257, 1000, 65536, 99999, 100000, 999983, 999999, 1000000}
	c := chance(4)
	for range 20 {
		out = append(out, 1+c.below(1000000))
	}
	return out
}

// P5.2: Div, and P5.5: a quotient times the divisor, and the rest, are the number.
func TestDiv(t *testing.T) {
	all := edges()
	c := chance(5)
	for range 200 {
		all = append(all, c.number(c.size()))
	}
	for _, a := range all {
		for _, by := range divisors() {
			wantQuotient, wantRest := new(big.Int).QuoRem(bigOf(t, a), big.NewInt(int64(by)), new(big.Int))
			quotient, rest, why := nat.Div(a, by)
			if quotient != wantQuotient.String() || int64(rest) != wantRest.Int64() || why != api.OK {
				t.Fatalf("Div(%s, %d) is %s, %d, %d; asked are %s, %s", a, by, quotient, rest, why, wantQuotient, wantRest)
			}
			product, why := nat.Mul(quotient, nat.FromWord(uint64(by)))
			if why != api.OK {
				t.Fatal("the quotient times the divisor:", why)
			}
			if again, why := nat.Add(product, nat.FromWord(uint64(rest))); again != a || why != api.OK {
				t.Fatalf("%s times %d and %d are %s, %d, not %s", quotient, by, rest, again, why, a)
			}
		}
	}
}

// P5.2: the edges of Div.
func TestDivEdges(t *testing.T) {
	for _, x := range []struct {
		a    string
		by   int
		want string
		rest int
	}{
		{"0", 1, "0", 0},
		{"0", 1000000, "0", 0},
		{"1", 1, "1", 0},
		{"1", 2, "0", 1},
		{"999999", 1000000, "0", 999999},
		{"1000000", 1000000, "1", 0},
		{"1000001", 1000000, "1", 1},
		{nines(800), 1, nines(800), 0},
		{nines(800), 1000000, nines(794), 999999},
		{nines(800), 9, strings.Repeat("1", 800), 0},
		{ten(799), 1000000, ten(793), 0},
		{ten(799), 10, ten(798), 0},
	} {
		if got, rest, why := nat.Div(x.a, x.by); got != x.want || rest != x.rest || why != api.OK {
			t.Errorf("Div(%s, %d) is %s, %d, %d", x.a, x.by, got, rest, why)
		}
	}
}

// P5.2: ErrArg of Div.
func TestDivWrong(t *testing.T) {
	check := func(a string, by int) {
		if s, rest, why := nat.Div(a, by); s != "" || rest != 0 || why != api.ErrArg {
			t.Errorf("Div(%.20q, %d) is %q, %d, %d", a, by, s, rest, why)
		}
	}
	wrongBy := []int{0, -1, -2, -1000000, 1000001, 2000000, 1 << 32, 1<<32 + 1, math.MaxInt, math.MinInt}
	for _, by := range wrongBy {
		for _, a := range []string{"0", "1", "1000001", nines(800), "", "01"} {
			check(a, by)
		}
	}
	for _, a := range wrongs() {
		for _, by := range []int{1, 2, 10, 1000000} {
			check(a, by)
		}
	}
}

// P5.2: Power, against a model: for some bases the first 300 counts of times, all around 800 digits and some of the others; for more bases those around 800 digits.
func TestPower(t *testing.T) {
	check := func(base, n int, model *big.Int) {
		want, wantWhy := told(model)
		if got, why := nat.Power(base, n); got != want || why != wantWhy {
			t.Fatalf("Power(%d, %d) is %s, %d; asked is %s, %d", base, n, got, why, want, wantWhy)
		}
	}
	for _, base := range []int{0, 1, 2, 3, 10, 999999, 1000000} {
		model := big.NewInt(1)
		near, beyond := bigOf(t, ten(790)), bigOf(t, ten(812))
		for n := 0; n <= 4000; n++ {
			if n < 300 || n%97 == 0 || n > 3990 || model.Cmp(near) > 0 && model.Cmp(beyond) < 0 {
				check(base, n, model)
			}
			if model.Cmp(beyond) < 0 { // it stays too long
				model.Mul(model, big.NewInt(int64(base)))
			}
		}
	}
	c := chance(6)
	for range 100 {
		base := 2 + c.below(999999)
		if c.below(2) == 0 {
			base = 2 + c.below(30)
		}
		n := int(float64(most) / math.Log10(float64(base)))
		for _, times := range []int{0, 1, 2, n - 1, n, n + 1, 4000} {
			check(base, times, new(big.Int).Exp(big.NewInt(int64(base)), big.NewInt(int64(times)), nil))
		}
	}
}

// P5.2: the edges of Power.
func TestPowerEdges(t *testing.T) {
	for _, x := range []struct {
		base, n int
		want    string
		why     api.Errno
	}{
		{0, 0, "1", api.OK},
		{1, 0, "1", api.OK},
		{1000000, 0, "1", api.OK},
		{0, 1, "0", api.OK},
		{0, 4000, "0", api.OK},
		{1, 4000, "1", api.OK},
		{1000000, 1, "1000000", api.OK},
		{1000000, 133, ten(798), api.OK},
		{1000000, 134, "", api.ErrNum},
		{1000000, 4000, "", api.ErrNum},
		{10, 799, ten(799), api.OK},
		{10, 800, "", api.ErrNum},
		{10, 803, "", api.ErrNum},
		{10, 804, "", api.ErrNum},
		{2, 4000, "", api.ErrNum},
		{2, 10, "1024", api.OK},
	} {
		if got, why := nat.Power(x.base, x.n); got != x.want || why != x.why {
			t.Errorf("Power(%d, %d) is %s, %d", x.base, x.n, got, why)
		}
	}
	// The greatest power of 2 that has room, by its count of digits.
	if s, why := nat.Power(2, 2657); len(s) != 800 || why != api.OK {
		t.Error("2 to the power of 2657:", len(s), why)
	}
	if s, why := nat.Power(2, 2658); s != "" || why != api.ErrNum {
		t.Error("2 to the power of 2658:", s, why)
	}
}

// P5.2: ErrArg of Power, also where ErrNum applies too.
func TestPowerWrong(t *testing.T) {
	wrongBase := []int{-1, -2, -1000000, 1000001, 1 << 32, math.MaxInt, math.MinInt}
	wrongTimes := []int{-1, -4000, 4001, 5000, 1 << 32, math.MaxInt, math.MinInt}
	check := func(base, n int) {
		if s, why := nat.Power(base, n); s != "" || why != api.ErrArg {
			t.Errorf("Power(%d, %d) is %q, %d", base, n, s, why)
		}
	}
	for _, base := range wrongBase {
		for _, n := range []int{0, 1, 2, 500, 4000} {
			check(base, n)
		}
		for _, n := range wrongTimes {
			check(base, n)
		}
	}
	for _, n := range wrongTimes {
		for _, base := range []int{0, 1, 2, 10, 1000000} {
			check(base, n)
		}
	}
}

// lists are bytes at the edges, and others.
func lists() [][]byte {
	out := [][]byte{nil, {}, {0}, {0, 0}, {1}, {0, 1}, {1, 0}, {255}, {1, 0, 0}, {255, 255}, {0, 255}, {0, 0, 1, 0}, {15, 66, 64}, {15, 66, 63}}
	c := chance(7)
	for range 600 {
		n := c.below(12)
		switch c.below(3) {
		case 0:
			n = c.below(401)
		case 1:
			n = 325 + c.below(12)
		}
		b := make([]byte, n)
		ahead := 0
		if c.below(3) == 0 {
			ahead = c.below(n + 1)
		}
		kind := c.below(3)
		for i := ahead; i < n; i++ {
			switch kind {
			case 0:
				b[i] = byte(c.next())
			case 1:
				b[i] = byte(255 * (c.below(8) &^ 6))
			case 2:
				b[i] = 255
			}
		}
		out = append(out, b)
	}
	return out
}

func withoutAhead(b []byte) []byte { return bytes.TrimLeft(b, "\x00") }

// P5.3: FromBytes and ToBytes, and P5.6: what comes of bytes goes back to them, but for bytes 0 ahead.
func TestBytes(t *testing.T) {
	for _, b := range lists() {
		want, wantWhy := told(new(big.Int).SetBytes(b))
		got, why := nat.FromBytes(b)
		if got != want || why != wantWhy {
			t.Fatalf("FromBytes(%v) is %s, %d; asked is %s, %d", b, got, why, want, wantWhy)
		}
		if why != api.OK {
			continue
		}
		if again, why := nat.ToBytes(got); !slices.Equal(again, withoutAhead(b)) || why != api.OK {
			t.Fatalf("ToBytes(%s) is %v, %d; asked is %v", got, again, why, withoutAhead(b))
		}
	}
}

// P5.3: ToBytes of all kinds of numbers, as few bytes as can be, and back.
func TestToBytes(t *testing.T) {
	all := edges()
	c := chance(8)
	for range 300 {
		all = append(all, c.number(c.size()))
	}
	for _, s := range all {
		b, why := nat.ToBytes(s)
		if want := bigOf(t, s).Bytes(); !slices.Equal(b, want) || why != api.OK {
			t.Fatalf("ToBytes(%s) is %v, %d; asked is %v", s, b, why, want)
		}
		if again, why := nat.FromBytes(b); again != s || why != api.OK {
			t.Fatalf("%s comes back as %s, %d", s, again, why)
		}
	}
	if b, why := nat.ToBytes("0"); len(b) != 0 || why != api.OK {
		t.Error("ToBytes of 0 is", b, why)
	}
	for _, s := range wrongs() {
		if b, why := nat.ToBytes(s); b != nil || why != api.ErrArg {
			t.Errorf("ToBytes(%.20q) is %v, %d", s, b, why)
		}
	}
}

// P5.3: the edges of FromBytes: no bytes, bytes 0 ahead, 400 bytes and 401, and numbers of just 800 digits and 801.
func TestFromBytesEdges(t *testing.T) {
	longest, ok := new(big.Int).SetString(nines(800), 10)
	if !ok {
		t.Fatal("no model")
	}
	beyond := new(big.Int).Add(longest, big.NewInt(1)).Bytes()
	ahead := func(n int, b []byte) []byte { return append(make([]byte, n-len(b)), b...) }
	for _, x := range []struct {
		name string
		b    []byte
		want string
		why  api.Errno
	}{
		{"nil", nil, "0", api.OK},
		{"none", []byte{}, "0", api.OK},
		{"a 0", []byte{0}, "0", api.OK},
		{"400 of 0", make([]byte, 400), "0", api.OK},
		{"401 of 0", make([]byte, 401), "", api.ErrNum},
		{"a 7 behind 399 of 0", ahead(400, []byte{7}), "7", api.OK},
		{"a 7 behind 400 of 0", ahead(401, []byte{7}), "", api.ErrNum},
		{"800 digits", longest.Bytes(), nines(800), api.OK},
		{"801 digits", beyond, "", api.ErrNum},
		{"800 digits in 400 bytes", ahead(400, longest.Bytes()), nines(800), api.OK},
		{"801 digits in 400 bytes", ahead(400, beyond), "", api.ErrNum},
		{"800 digits in 401 bytes", ahead(401, longest.Bytes()), "", api.ErrNum},
		{"400 of 255", bytes.Repeat([]byte{255}, 400), "", api.ErrNum},
		{"401 of 255", bytes.Repeat([]byte{255}, 401), "", api.ErrNum},
		{"a million of 255", bytes.Repeat([]byte{255}, 1000000), "", api.ErrNum},
		{"a million of 0", make([]byte, 1000000), "", api.ErrNum},
	} {
		if got, why := nat.FromBytes(x.b); got != x.want || why != x.why {
			t.Errorf("FromBytes of %s is %s, %d", x.name, got, why)
		}
	}
	for _, s := range []string{ten(799), nines(799), nines(800)} {
		if got, why := nat.FromBytes(bigOf(t, s).Bytes()); got != s || why != api.OK {
			t.Errorf("FromBytes is %s, %d; asked is %s", got, why, s)
		}
	}
}

// P5.3: FromWord and ToWord.
func TestWords(t *testing.T) {
	words := []uint64{0, 1, 9, 10, 99, 100, 999999, 1000000, math.MaxInt64, math.MaxInt64 + 1, math.MaxUint64 - 1, math.MaxUint64}
	c := chance(9)
	for range 200 {
		words = append(words, c.next()>>c.below(64))
	}
	for _, n := range words {
		want := new(big.Int).SetUint64(n).String()
		s := nat.FromWord(n)
		if s != want || !nat.Right(s) {
			t.Errorf("FromWord(%d) is %q", n, s)
		}
		if again, ok := nat.ToWord(s); again != n || !ok {
			t.Errorf("ToWord(%q) is %d, %t", s, again, ok)
		}
	}
	tooGreat := []string{"18446744073709551616", "18446744073709551620", "20000000000000000000", "99999999999999999999", ten(20), nines(40), nines(800), ten(799)}
	for _, s := range slices.Concat(tooGreat, wrongs()) {
		if n, ok := nat.ToWord(s); n != 0 || ok {
			t.Errorf("ToWord(%.30q) is %d, %t", s, n, ok)
		}
	}
	for _, s := range edges() {
		model := bigOf(t, s)
		want := uint64(0)
		if model.IsUint64() {
			want = model.Uint64()
		}
		if n, ok := nat.ToWord(s); n != want || ok != model.IsUint64() {
			t.Errorf("ToWord(%s) is %d, %t", s, n, ok)
		}
	}
}

// P5.4: a sum of three, and a product of three, hang on no order either, while all have room.
func TestThree(t *testing.T) {
	c := chance(10)
	must := func(s string, why api.Errno) string {
		if why != api.OK {
			t.Fatal("an error of numbers that have room:", why)
		}
		return s
	}
	for range 100 {
		x, y, z := c.number(1+c.below(260)), c.number(1+c.below(260)), c.number(1+c.below(260))
		if must(nat.Add(must(nat.Add(x, y)), z)) != must(nat.Add(x, must(nat.Add(y, z)))) {
			t.Fatal("sums of", x, y, z)
		}
		if must(nat.Mul(must(nat.Mul(x, y)), z)) != must(nat.Mul(x, must(nat.Mul(y, z)))) {
			t.Fatal("products of", x, y, z)
		}
		sum := must(nat.Add(must(nat.Mul(x, z)), must(nat.Mul(y, z))))
		if must(nat.Mul(must(nat.Add(x, y)), z)) != sum {
			t.Fatal("a product of a sum of", x, y, z)
		}
	}
}

// R4: bytes that are handed in are neither changed nor kept, nor is the room behind them; what is answered is the caller's.
func TestApart(t *testing.T) {
	for _, b := range lists() {
		all := append(slices.Clone(b), 1, 2, 3, 4, 5, 6, 7, 8)
		before := slices.Clone(all)
		first, why := nat.FromBytes(all[:len(b)])
		if !slices.Equal(all, before) {
			t.Fatal("FromBytes wrote into", before)
		}
		kept := strings.Clone(first)
		for i := range all {
			all[i] ^= 0xFF
		}
		if first != kept {
			t.Fatal("the answer turned with the bytes")
		}
		if again, whyAgain := nat.FromBytes(b); again != first || whyAgain != why {
			t.Fatal("the same bytes have another answer")
		}
	}
	for _, s := range edges() {
		first, _ := nat.ToBytes(s)
		kept := slices.Clone(first)
		second, _ := nat.ToBytes(s)
		for _, b := range [][]byte{first, first[:cap(first)]} {
			for i := range b {
				b[i] ^= 0xFF
			}
		}
		third, _ := nat.ToBytes(s)
		if !slices.Equal(second, kept) || !slices.Equal(third, kept) {
			t.Fatal("answers of ToBytes share memory:", s)
		}
	}
}

// R3: the same arguments have the same answers, whatever was called in between.
func TestSame(t *testing.T) {
	type answers struct {
		sum, difference, product, quotient, power string
		rest                                      int
		whys                                      [5]api.Errno
	}
	ask := func(a, b string, by, n int) (x answers) {
		x.sum, x.whys[0] = nat.Add(a, b)
		x.difference, x.whys[1] = nat.Sub(a, b)
		x.product, x.whys[2] = nat.Mul(a, b)
		x.quotient, x.rest, x.whys[3] = nat.Div(a, by)
		x.power, x.whys[4] = nat.Power(by, n)
		return x
	}
	run := func() (all []answers) {
		c := chance(11)
		for range 50 {
			all = append(all, ask(c.number(c.size()), c.number(c.size()), c.below(1000002), c.below(60)))
		}
		return all
	}
	if !slices.Equal(run(), run()) {
		t.Error("a second run has other answers")
	}
}
