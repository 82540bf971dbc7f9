package dec_test

import (
	"math"
	"math/big"
	"regexp"
	"slices"
	"strconv"
	"strings"
	"testing"
	"unsafe"

	"gantline/api"
	"gantline/dec"
)

// The document's bounds, as it says them.
const (
	mostDigits = 800
	mostExp    = 2000
	mostBytes  = 4096
)

// chance is a row of numbers that look like chance, the same ones each time.
type chance uint64

func (c *chance) next() uint64 {
	*c ^= *c << 13
	*c ^= *c >> 7
	*c ^= *c << 17
	return uint64(*c)
}

func (c *chance) below(n int) int { return int(c.next() % uint64(n)) }

// digits are so many digits, often with rows of 0 ahead, among and behind them.
func (c *chance) digits(n int) string {
	b := make([]byte, n)
	for i := range b {
		b[i] = byte('0' + c.below(10))
	}
	for range 2 {
		if from := c.below(n + 1); c.below(2) == 0 {
			for i := from; i < min(n, from+c.below(n+1)); i++ {
				b[i] = '0'
			}
		}
	}
	return string(b)
}

// size is a count of digits, small ones and those near the bounds most often.
func (c *chance) size() int {
	switch c.below(8) {
	case 0:
		return 1 + c.below(mostBytes)
	case 1:
		return mostDigits - 3 + c.below(7)
	}
	return 1 + c.below(20)
}

// exp is an exponent, small ones and those near the bounds most often.
func (c *chance) exp() int {
	switch c.below(4) {
	case 0:
		return c.below(4*mostExp) - 2*mostExp
	case 1:
		return mostExp + 3 - c.below(25)
	case 2:
		return c.below(7) - mostExp - 3
	}
	return c.below(41) - 20
}

// number is a number in its form; many are near one another.
func (c *chance) number() api.Number {
	if c.below(16) == 0 {
		return api.Number{Digits: "0"}
	}
	size := 1 + c.below(4)
	if c.below(8) == 0 {
		size = 1 + c.below(mostDigits)
	}
	b := []byte(c.digits(size))
	b[0] = byte('1' + c.below(9))
	b[size-1] = byte('1' + c.below(9))
	exp := c.below(9) - 4
	if c.below(8) == 0 {
		exp = c.below(2*mostExp+1) - mostExp
	}
	return api.Number{Neg: c.below(2) == 0, Digits: string(b), Exp: exp}
}

func zeros(n int) string { return strings.Repeat("0", n) }
func nines(n int) string { return strings.Repeat("9", n) }

// bigOf are digits as a number of the model.
func bigOf(t *testing.T, digits string) *big.Int {
	t.Helper()
	n, ok := new(big.Int).SetString(digits, 10)
	if !ok {
		t.Fatalf("%q are no digits of the model", digits)
	}
	return n
}

// tens is 10 to the power of n.
func tens(n int) *big.Int {
	return new(big.Int).Exp(big.NewInt(10), big.NewInt(int64(n)), nil)
}

// made is what the document asks of digits, times 10 to the power of exp: its tens are taken out one by one.
func made(t *testing.T, neg bool, digits string, exp *big.Int) (api.Number, api.Errno) {
	t.Helper()
	n := bigOf(t, digits)
	if n.Sign() == 0 {
		return api.Number{Digits: "0"}, api.OK
	}
	exp = new(big.Int).Set(exp)
	for {
		tenth, rest := new(big.Int).QuoRem(n, big.NewInt(10), new(big.Int))
		if rest.Sign() != 0 {
			break
		}
		n = tenth
		exp.Add(exp, big.NewInt(1))
	}
	if len(n.String()) > mostDigits || exp.CmpAbs(big.NewInt(mostExp)) > 0 {
		return api.Number{}, api.ErrNum
	}
	return api.Number{Neg: neg, Digits: n.String(), Exp: int(exp.Int64())}, api.OK
}

var grammar = regexp.MustCompile(`^(-?)(0|[1-9][0-9]*)(?:\.([0-9]+))?(?:[eE]([+-]?[0-9]+))?$`)

// goesOn tells whether a text of the grammar begins so: each beginning is one, or lacks but a digit.
func goesOn(s string) bool {
	return grammar.MatchString(s) || grammar.MatchString(s+"1")
}

// parsed is what the document asks of Parse.
func parsed(t *testing.T, s string) (api.Number, api.Fault) {
	t.Helper()
	if len(s) > mostBytes {
		return api.Number{}, api.Fault{Why: api.ErrNum}
	}
	m := grammar.FindStringSubmatch(s)
	if m == nil {
		for at := range len(s) {
			if !goesOn(s[:at+1]) {
				return api.Number{}, api.Fault{Why: api.ErrForm, At: at}
			}
		}
		return api.Number{}, api.Fault{Why: api.ErrEnd, At: len(s)}
	}
	exp := new(big.Int)
	if m[4] != "" {
		exp = bigOf(t, m[4])
	}
	n, why := made(t, m[1] != "", m[2]+m[3], exp.Sub(exp, big.NewInt(int64(len(m[3])))))
	return n, api.Fault{Why: why}
}

// value is a number as a fraction.
func value(t *testing.T, n api.Number) *big.Rat {
	t.Helper()
	r := new(big.Rat).SetInt(bigOf(t, n.Digits))
	if n.Neg {
		r.Neg(r)
	}
	if n.Exp < 0 {
		return r.Quo(r, new(big.Rat).SetInt(tens(-n.Exp)))
	}
	return r.Mul(r, new(big.Rat).SetInt(tens(n.Exp)))
}

// turned is a number with the other sign, in its form.
func turned(n api.Number) api.Number {
	if n.Digits != "0" {
		n.Neg = !n.Neg
	}
	return n
}

// rights are numbers in their form, at the edges and near one another.
func rights() []api.Number {
	return []api.Number{
		{Digits: "0"},
		{Digits: "1"}, {Neg: true, Digits: "1"},
		{Digits: "1", Exp: 1}, {Digits: "1", Exp: -1}, {Neg: true, Digits: "1", Exp: 1},
		{Digits: "9"}, {Digits: "11"}, {Digits: "99", Exp: -1}, {Digits: "101", Exp: -2}, {Digits: "1001", Exp: -3},
		{Digits: "15", Exp: 2}, {Neg: true, Digits: "15", Exp: 2}, {Digits: "2", Exp: 3}, {Digits: "1", Exp: 3},
		{Digits: "15"}, {Digits: "15", Exp: -1}, {Digits: "151", Exp: -2}, {Digits: "1501"}, {Digits: "149", Exp: 1},
		{Digits: "1", Exp: mostExp}, {Digits: "1", Exp: -mostExp},
		{Neg: true, Digits: "1", Exp: mostExp}, {Neg: true, Digits: "1", Exp: -mostExp},
		{Digits: nines(mostDigits), Exp: mostExp}, {Neg: true, Digits: nines(mostDigits), Exp: -mostExp},
		{Digits: nines(mostDigits)}, {Digits: nines(mostDigits), Exp: -mostDigits}, {Digits: "1", Exp: mostDigits},
		{Digits: "1", Exp: mostDigits - 1}, {Digits: "1" + zeros(mostDigits-2) + "1"},
	}
}

// wrongs are numbers that are not in their form.
func wrongs() []api.Number {
	return []api.Number{
		{},
		{Neg: true},
		{Exp: 1},
		{Neg: true, Digits: "0"},
		{Digits: "0", Exp: 1}, {Digits: "0", Exp: -1}, {Neg: true, Digits: "0", Exp: 5}, {Digits: "0", Exp: math.MinInt},
		{Digits: "00"}, {Digits: "01"}, {Digits: "10"}, {Digits: "1500", Exp: 1}, {Digits: "010"},
		{Digits: "1", Exp: mostExp + 1}, {Digits: "1", Exp: -mostExp - 1},
		{Digits: "1", Exp: math.MaxInt}, {Digits: "1", Exp: math.MinInt}, {Neg: true, Digits: "12", Exp: math.MaxInt - 1},
		{Digits: "-1"}, {Digits: "+1"}, {Digits: " 1"}, {Digits: "1 "}, {Digits: "1.5"}, {Digits: "1e5"}, {Digits: "a"}, {Digits: "1_1"},
		{Digits: "1\x00"}, {Digits: "\xff"}, {Digits: "/1"}, {Digits: "1:"}, {Digits: "\u0661"},
		{Digits: nines(mostDigits + 1)}, {Digits: nines(mostBytes + 1)}, {Digits: zeros(mostDigits) + "1"},
	}
}

// P6.1: Right is true of just the numbers in their form.
func TestRight(t *testing.T) {
	for _, n := range rights() {
		if !dec.Right(n) {
			t.Errorf("Right(%v) is false", n)
		}
	}
	for _, n := range wrongs() {
		if dec.Right(n) {
			t.Errorf("Right(%v) is true", n)
		}
	}
}

// P6.1: Make, where it answers a number.
func TestMake(t *testing.T) {
	for _, c := range []struct {
		neg    bool
		digits string
		exp    int
		want   api.Number
	}{
		{false, "1", 0, api.Number{Digits: "1"}},
		{true, "150", 1, api.Number{Neg: true, Digits: "15", Exp: 2}},
		{false, "000120300", -7, api.Number{Digits: "1203", Exp: -5}},
		{false, "0", 0, api.Number{Digits: "0"}},
		{true, "0", 0, api.Number{Digits: "0"}},
		{true, "0000", -17, api.Number{Digits: "0"}},
		{false, "0", math.MaxInt, api.Number{Digits: "0"}},
		{true, "00", math.MinInt, api.Number{Digits: "0"}},
		{true, zeros(mostBytes), mostExp + 1, api.Number{Digits: "0"}},
		{false, "1", mostExp, api.Number{Digits: "1", Exp: mostExp}},
		{false, "1", -mostExp, api.Number{Digits: "1", Exp: -mostExp}},
		{false, "10", mostExp - 1, api.Number{Digits: "1", Exp: mostExp}},
		{true, "10", -mostExp - 1, api.Number{Neg: true, Digits: "1", Exp: -mostExp}},
		{false, "1" + zeros(mostBytes-1), -mostExp - mostBytes + 1, api.Number{Digits: "1", Exp: -mostExp}},
		{false, "1" + zeros(mostBytes-1), mostExp - mostBytes + 1, api.Number{Digits: "1", Exp: mostExp}},
		{false, zeros(mostBytes-1) + "7", 3, api.Number{Digits: "7", Exp: 3}},
		{false, nines(mostDigits), 0, api.Number{Digits: nines(mostDigits)}},
		{true, zeros(1000) + nines(mostDigits) + zeros(1000), 0, api.Number{Neg: true, Digits: nines(mostDigits), Exp: 1000}},
	} {
		if n, why := dec.Make(c.neg, c.digits, c.exp); n != c.want || why != api.OK {
			t.Errorf("Make(%v, %q, %d): %v, %v", c.neg, c.digits, c.exp, n, why)
		}
	}
}

// P6.1, R1: Make's errors, the one named first where several apply, and nothing beside them.
func TestMakeErrors(t *testing.T) {
	for _, c := range []struct {
		digits string
		exp    int
		want   api.Errno
	}{
		{"", 0, api.ErrArg},
		{"", mostExp + 1, api.ErrArg},
		{"-1", 0, api.ErrArg},
		{"+1", 0, api.ErrArg},
		{" 1", 0, api.ErrArg},
		{"1 ", 0, api.ErrArg},
		{"1 1", 0, api.ErrArg},
		{"1.5", 0, api.ErrArg},
		{"1e5", 0, api.ErrArg},
		{"1a", 0, api.ErrArg},
		{"0x10", 0, api.ErrArg},
		{"0-", 0, api.ErrArg},
		{"/", 0, api.ErrArg},
		{":", 0, api.ErrArg},
		{"00:", 0, api.ErrArg},
		{"1\x00", 0, api.ErrArg},
		{"\xb1", 0, api.ErrArg},
		{"\u0661", 0, api.ErrArg},
		{"a", math.MaxInt, api.ErrArg},
		{nines(mostBytes-1) + "a", math.MinInt, api.ErrArg},
		{nines(mostBytes + 1), 0, api.ErrArg},
		{zeros(mostBytes + 1), 0, api.ErrArg},
		{zeros(mostBytes) + "1", 0, api.ErrArg},
		{nines(mostDigits + 1), 0, api.ErrNum},
		{"1" + zeros(mostDigits-1) + "1" + zeros(9), 0, api.ErrNum},
		{nines(mostBytes), 0, api.ErrNum},
		{"1", mostExp + 1, api.ErrNum},
		{"1", -mostExp - 1, api.ErrNum},
		{"10", mostExp, api.ErrNum},
		{"10", -mostExp - 2, api.ErrNum},
		{"1" + zeros(mostBytes-1), mostExp - mostBytes + 2, api.ErrNum},
		{"1" + zeros(mostBytes-1), -mostExp - mostBytes, api.ErrNum},
		{"1", math.MaxInt, api.ErrNum},
		{"1", math.MinInt, api.ErrNum},
		{"10", math.MaxInt, api.ErrNum},
		{"1" + zeros(mostBytes-1), math.MaxInt, api.ErrNum},
		{"1" + zeros(mostBytes-1), math.MinInt, api.ErrNum},
	} {
		for _, neg := range []bool{false, true} {
			if n, why := dec.Make(neg, c.digits, c.exp); n != (api.Number{}) || why != c.want {
				t.Errorf("Make(%v, %q, %d): %v, %v, not %v", neg, c.digits, c.exp, n, why, c.want)
			}
		}
	}
}

// P6.1: each byte but a digit is refused, wherever it stands.
func TestMakeBytes(t *testing.T) {
	for x := range 256 {
		for _, s := range []string{"", "1", "12"} {
			for at := range len(s) + 1 {
				digits := s[:at] + string([]byte{byte(x)}) + s[at:]
				_, why := dec.Make(false, digits, 0)
				if isDigit := x >= '0' && x <= '9'; isDigit != (why == api.OK) || !isDigit && why != api.ErrArg {
					t.Errorf("Make of %q: %v", digits, why)
				}
			}
		}
	}
}

// P6.1, R7: Make against the model; what it answers is in its form.
func TestMakeModel(t *testing.T) {
	c := chance(6)
	for range 4000 {
		neg, digits, exp := c.below(2) == 0, c.digits(c.size()), c.exp()
		want, wantWhy := made(t, neg, digits, big.NewInt(int64(exp)))
		n, why := dec.Make(neg, digits, exp)
		if n != want || why != wantWhy {
			t.Fatalf("Make(%v, %q, %d): %v, %v, not %v, %v", neg, digits, exp, n, why, want, wantWhy)
		}
		if why == api.OK && !dec.Right(n) {
			t.Fatalf("Make(%v, %q, %d): %v is not in its form", neg, digits, exp, n)
		}
	}
}

// P6.2: Parse, where it answers a number.
func TestParse(t *testing.T) {
	for _, c := range []struct {
		s    string
		want api.Number
	}{
		{"-1.50e3", api.Number{Neg: true, Digits: "15", Exp: 2}},
		{"1.50", api.Number{Digits: "15", Exp: -1}},
		{"15e-1", api.Number{Digits: "15", Exp: -1}},
		{"0", api.Number{Digits: "0"}},
		{"-0", api.Number{Digits: "0"}},
		{"0.000", api.Number{Digits: "0"}},
		{"-0.0e-0", api.Number{Digits: "0"}},
		{"0e99", api.Number{Digits: "0"}},
		{"0e99999999999999999999999", api.Number{Digits: "0"}},
		{"-0E-99999999999999999999999", api.Number{Digits: "0"}},
		{"7", api.Number{Digits: "7"}},
		{"1234567890", api.Number{Digits: "123456789", Exp: 1}},
		{"0.1", api.Number{Digits: "1", Exp: -1}},
		{"-0.00120", api.Number{Neg: true, Digits: "12", Exp: -4}},
		{"1E5", api.Number{Digits: "1", Exp: 5}},
		{"1e+5", api.Number{Digits: "1", Exp: 5}},
		{"1E-5", api.Number{Digits: "1", Exp: -5}},
		{"1e0", api.Number{Digits: "1"}},
		{"1e-0", api.Number{Digits: "1"}},
		{"1e0005", api.Number{Digits: "1", Exp: 5}},
		{"1e-" + zeros(4000) + "5", api.Number{Digits: "1", Exp: -5}},
		{"1e2000", api.Number{Digits: "1", Exp: mostExp}},
		{"1e-2000", api.Number{Digits: "1", Exp: -mostExp}},
		{"10e1999", api.Number{Digits: "1", Exp: mostExp}},
		{"10e-2001", api.Number{Digits: "1", Exp: -mostExp}},
		{"0.1e2001", api.Number{Digits: "1", Exp: mostExp}},
		{"0.1e-1999", api.Number{Digits: "1", Exp: -mostExp}},
		{"0." + zeros(4000) + "1e4001", api.Number{Digits: "1"}},
		{"0." + zeros(4000) + "1e6001", api.Number{Digits: "1", Exp: mostExp}},
		{"1" + zeros(4000) + "e-6000", api.Number{Digits: "1", Exp: -mostExp}},
		{"1" + zeros(4000) + "." + zeros(80) + "e-2000", api.Number{Digits: "1", Exp: mostExp}},
		{nines(mostDigits), api.Number{Digits: nines(mostDigits)}},
		{"-" + nines(mostDigits) + zeros(mostExp), api.Number{Neg: true, Digits: nines(mostDigits), Exp: mostExp}},
		{"0." + zeros(mostExp-mostDigits) + nines(mostDigits), api.Number{Digits: nines(mostDigits), Exp: -mostExp}},
		{"1." + zeros(mostBytes-2), api.Number{Digits: "1"}},
		{"-0." + zeros(mostBytes-3), api.Number{Digits: "0"}},
		{"2e" + zeros(mostBytes-3) + "1", api.Number{Digits: "2", Exp: 1}},
	} {
		if n, f := dec.Parse(c.s); n != c.want || f != (api.Fault{}) {
			t.Errorf("Parse(%q): %v, %v", c.s, n, f)
		}
	}
}

// P6.2, R1: Parse's faults, the one named first where several apply, and nothing beside them.
func TestParseFaults(t *testing.T) {
	for _, c := range []struct {
		s    string
		want api.Fault
	}{
		{"", api.Fault{Why: api.ErrEnd}},
		{"-", api.Fault{Why: api.ErrEnd, At: 1}},
		{"1.", api.Fault{Why: api.ErrEnd, At: 2}},
		{"-0.", api.Fault{Why: api.ErrEnd, At: 3}},
		{"1e", api.Fault{Why: api.ErrEnd, At: 2}},
		{"1E", api.Fault{Why: api.ErrEnd, At: 2}},
		{"1e+", api.Fault{Why: api.ErrEnd, At: 3}},
		{"1.5e-", api.Fault{Why: api.ErrEnd, At: 5}},
		{nines(mostBytes-1) + ".", api.Fault{Why: api.ErrEnd, At: mostBytes}},
		{nines(mostBytes-1) + "e", api.Fault{Why: api.ErrEnd, At: mostBytes}},
		{"+1", api.Fault{Why: api.ErrForm}},
		{".5", api.Fault{Why: api.ErrForm}},
		{"e5", api.Fault{Why: api.ErrForm}},
		{" 1", api.Fault{Why: api.ErrForm}},
		{"x", api.Fault{Why: api.ErrForm}},
		{"\x00", api.Fault{Why: api.ErrForm}},
		{"\xff1", api.Fault{Why: api.ErrForm}},
		{"--1", api.Fault{Why: api.ErrForm, At: 1}},
		{"-+1", api.Fault{Why: api.ErrForm, At: 1}},
		{"-.5", api.Fault{Why: api.ErrForm, At: 1}},
		{"-Infinity", api.Fault{Why: api.ErrForm, At: 1}},
		{"00", api.Fault{Why: api.ErrForm, At: 1}},
		{"01", api.Fault{Why: api.ErrForm, At: 1}},
		{"-01", api.Fault{Why: api.ErrForm, At: 2}},
		{"0x1", api.Fault{Why: api.ErrForm, At: 1}},
		{"1-", api.Fault{Why: api.ErrForm, At: 1}},
		{"1 ", api.Fault{Why: api.ErrForm, At: 1}},
		{"12a", api.Fault{Why: api.ErrForm, At: 2}},
		{"1_0", api.Fault{Why: api.ErrForm, At: 1}},
		{"1..5", api.Fault{Why: api.ErrForm, At: 2}},
		{"1.e5", api.Fault{Why: api.ErrForm, At: 2}},
		{"1.-5", api.Fault{Why: api.ErrForm, At: 2}},
		{"1.5.5", api.Fault{Why: api.ErrForm, At: 3}},
		{"1.5-", api.Fault{Why: api.ErrForm, At: 3}},
		{"1ee5", api.Fault{Why: api.ErrForm, At: 2}},
		{"1e.5", api.Fault{Why: api.ErrForm, At: 2}},
		{"1e+-5", api.Fault{Why: api.ErrForm, At: 3}},
		{"1e+x", api.Fault{Why: api.ErrForm, At: 3}},
		{"1e5.0", api.Fault{Why: api.ErrForm, At: 3}},
		{"1e5e5", api.Fault{Why: api.ErrForm, At: 3}},
		{"1e5-", api.Fault{Why: api.ErrForm, At: 3}},
		{"0\n", api.Fault{Why: api.ErrForm, At: 1}},
		{"1e9999x", api.Fault{Why: api.ErrForm, At: 6}},
		{nines(mostBytes-1) + "x", api.Fault{Why: api.ErrForm, At: mostBytes - 1}},
		{"x" + nines(mostBytes-1), api.Fault{Why: api.ErrForm}},
		{nines(mostBytes + 1), api.Fault{Why: api.ErrNum}},
		{"1." + zeros(mostBytes-1), api.Fault{Why: api.ErrNum}},
		{zeros(mostBytes + 1), api.Fault{Why: api.ErrNum}},
		{"x" + zeros(mostBytes), api.Fault{Why: api.ErrNum}},
		{nines(mostBytes) + "e", api.Fault{Why: api.ErrNum}},
		{nines(mostBytes), api.Fault{Why: api.ErrNum}},
		{nines(mostDigits + 1), api.Fault{Why: api.ErrNum}},
		{"1" + zeros(mostDigits-1) + ".1", api.Fault{Why: api.ErrNum}},
		{"1e2001", api.Fault{Why: api.ErrNum}},
		{"1e-2001", api.Fault{Why: api.ErrNum}},
		{"10e2000", api.Fault{Why: api.ErrNum}},
		{"10e-2002", api.Fault{Why: api.ErrNum}},
		{"0.1e2002", api.Fault{Why: api.ErrNum}},
		{"0.1e-2000", api.Fault{Why: api.ErrNum}},
		{"1" + zeros(mostExp+1), api.Fault{Why: api.ErrNum}},
		{"0." + zeros(mostExp) + "1", api.Fault{Why: api.ErrNum}},
		{"0." + zeros(4000) + "1e6002", api.Fault{Why: api.ErrNum}},
		{"1e9223372036854775807", api.Fault{Why: api.ErrNum}},
		{"1e9223372036854775808", api.Fault{Why: api.ErrNum}},
		{"1e-9223372036854775808", api.Fault{Why: api.ErrNum}},
		{"1e-9223372036854775809", api.Fault{Why: api.ErrNum}},
		{"1e18446744073709551616", api.Fault{Why: api.ErrNum}},
		{"1e18446744073709551617", api.Fault{Why: api.ErrNum}},
		{"1e-18446744073709551621", api.Fault{Why: api.ErrNum}},
		{"1e" + zeros(4000) + "18446744073709551617", api.Fault{Why: api.ErrNum}},
		{"1e1" + zeros(4000), api.Fault{Why: api.ErrNum}},
		{"1e-1" + zeros(4000), api.Fault{Why: api.ErrNum}},
		{"0." + zeros(4070) + "1e18446744073709551617", api.Fault{Why: api.ErrNum}},
		{"1" + zeros(4070) + "e-18446744073709551617", api.Fault{Why: api.ErrNum}},
	} {
		if n, f := dec.Parse(c.s); n != (api.Number{}) || f != c.want {
			t.Errorf("Parse(%q): %v, %v, not %v", c.s, n, f, c.want)
		}
	}
}

// agree holds Parse against the model.
func agree(t *testing.T, s string) {
	t.Helper()
	want, wantFault := parsed(t, s)
	if n, f := dec.Parse(s); n != want || f != wantFault {
		t.Fatalf("Parse(%q): %v, %v, not %v, %v", s, n, f, want, wantFault)
	}
}

// P6.2: every text of at most five bytes that the grammar knows, and one that it does not.
func TestParseShort(t *testing.T) {
	const letters = "-+.eE019x"
	texts := []string{""}
	for range 6 {
		var longer []string
		for _, s := range texts {
			agree(t, s)
			for i := range len(letters) {
				longer = append(longer, s+letters[i:i+1])
			}
		}
		texts = longer
	}
}

// P6.2: every byte in every state of a text.
func TestParseBytes(t *testing.T) {
	for _, s := range []string{"", "-", "0", "-0", "1", "-12", "1.", "0.0", "1.5", "1e", "1E", "1e+", "1e-", "1e5", "1.5e-07"} {
		for x := range 256 {
			agree(t, s+string([]byte{byte(x)}))
			agree(t, s+string([]byte{byte(x)})+"1")
		}
	}
}

// P6.2: long texts against the model, right ones and spoiled ones.
func TestParseModel(t *testing.T) {
	c := chance(62)
	for range 3000 {
		s := strings.TrimLeft(c.digits(c.size()), "0")
		if s == "" {
			s = "0"
		}
		if c.below(2) == 0 {
			s += "." + c.digits(c.size())
		}
		if c.below(2) == 0 {
			s += []string{"e", "E", "e+", "e-", "E-"}[c.below(5)]
			s += zeros(c.below(3)) + strconv.Itoa(c.below(3*mostExp))
		}
		if c.below(2) == 0 {
			s = "-" + s
		}
		if c.below(4) == 0 {
			at := c.below(len(s))
			s = s[:at] + "-+.eE0x"[c.below(7):][:1] + s[at+1:]
		}
		agree(t, s)
	}
}

// P6.3: Text.
func TestText(t *testing.T) {
	for _, c := range []struct {
		n    api.Number
		want string
	}{
		{api.Number{Digits: "0"}, "0"},
		{api.Number{Neg: true, Digits: "15", Exp: 2}, "-15e2"},
		{api.Number{Digits: "15", Exp: -1}, "15e-1"},
		{api.Number{Digits: "7"}, "7"},
		{api.Number{Neg: true, Digits: "7"}, "-7"},
		{api.Number{Digits: "1", Exp: mostExp}, "1e2000"},
		{api.Number{Digits: "1", Exp: -mostExp}, "1e-2000"},
		{api.Number{Neg: true, Digits: nines(mostDigits), Exp: -mostExp}, "-" + nines(mostDigits) + "e-2000"},
	} {
		if s := dec.Text(c.n); s != c.want {
			t.Errorf("Text(%v): %q, not %q", c.n, s, c.want)
		}
	}
	for _, n := range wrongs() {
		if s := dec.Text(n); s != "" {
			t.Errorf("Text(%v): %q", n, s)
		}
	}
}

// P6.3: Whole.
func TestWhole(t *testing.T) {
	for _, c := range []struct {
		n    api.Number
		want string
		ok   bool
	}{
		{api.Number{Digits: "0"}, "0", true},
		{api.Number{Digits: "7"}, "7", true},
		{api.Number{Digits: "15", Exp: 2}, "1500", true},
		{api.Number{Neg: true, Digits: "15", Exp: 2}, "1500", true},
		{api.Number{Digits: nines(mostDigits)}, nines(mostDigits), true},
		{api.Number{Digits: nines(mostDigits - 1), Exp: 1}, nines(mostDigits-1) + "0", true},
		{api.Number{Digits: "1", Exp: mostDigits - 1}, "1" + zeros(mostDigits-1), true},
		{api.Number{Digits: "1", Exp: mostDigits}, "", false},
		{api.Number{Digits: "11", Exp: mostDigits - 1}, "", false},
		{api.Number{Digits: nines(mostDigits), Exp: 1}, "", false},
		{api.Number{Digits: nines(mostDigits), Exp: mostExp}, "", false},
		{api.Number{Digits: "1", Exp: mostExp}, "", false},
		{api.Number{Digits: "1", Exp: -1}, "", false},
		{api.Number{Digits: nines(mostDigits), Exp: -1}, "", false},
		{api.Number{Digits: "15", Exp: -mostExp}, "", false},
	} {
		if s, ok := dec.Whole(c.n); s != c.want || ok != c.ok {
			t.Errorf("Whole(%v): %q, %v, not %q, %v", c.n, s, ok, c.want, c.ok)
		}
	}
	for _, n := range wrongs() {
		if s, ok := dec.Whole(n); s != "" || ok {
			t.Errorf("Whole(%v): %q, %v", n, s, ok)
		}
	}
}

// P6.3: Whole against the model, of numbers with and without a part.
func TestWholeModel(t *testing.T) {
	c := chance(63)
	for range 2000 {
		n := c.number()
		want, wantOk := "", false
		if r := value(t, n); r.IsInt() {
			if s := r.Num().Abs(r.Num()).String(); len(s) <= mostDigits {
				want, wantOk = s, true
			}
		}
		if s, ok := dec.Whole(n); s != want || ok != wantOk {
			t.Fatalf("Whole(%v): %q, %v, not %q, %v", n, s, ok, want, wantOk)
		}
	}
}

// P6.4: Order.
func TestOrder(t *testing.T) {
	rising := []api.Number{
		{Neg: true, Digits: nines(mostDigits), Exp: mostExp},
		{Neg: true, Digits: "1", Exp: mostExp},
		{Neg: true, Digits: "15", Exp: 2},
		{Neg: true, Digits: "149", Exp: 1},
		{Neg: true, Digits: "15", Exp: 1},
		{Neg: true, Digits: "15"},
		{Neg: true, Digits: "1"},
		{Neg: true, Digits: "1", Exp: -mostExp},
		{Digits: "0"},
		{Digits: "1", Exp: -mostExp},
		{Digits: nines(mostDigits), Exp: -mostExp},
		{Digits: "15", Exp: -1},
		{Digits: "151", Exp: -2},
		{Digits: "2"},
		{Digits: "99", Exp: -1},
		{Digits: "1", Exp: 1},
		{Digits: "101", Exp: -1},
		{Digits: "15"},
		{Digits: "99"},
		{Digits: "1", Exp: 2},
		{Digits: "15", Exp: 1},
		{Digits: nines(mostDigits)},
		{Digits: "1", Exp: mostDigits},
		{Digits: "1", Exp: mostExp},
		{Digits: "1" + zeros(mostDigits-2) + "1", Exp: mostExp - mostDigits + 1},
		{Digits: "15", Exp: mostExp - 1},
		{Digits: nines(mostDigits), Exp: mostExp},
	}
	for i, a := range rising {
		for j, b := range rising {
			want := 0
			if i < j {
				want = -1
			} else if i > j {
				want = 1
			}
			if order, why := dec.Order(a, b); order != want || why != api.OK {
				t.Errorf("Order(%v, %v): %d, %v, not %d", a, b, order, why, want)
			}
		}
	}
}

// P6.4, R1: Order of a number that is not in its form, on either side.
func TestOrderErrors(t *testing.T) {
	others := append(wrongs(), rights()...)
	for _, a := range wrongs() {
		for _, b := range others {
			if order, why := dec.Order(a, b); order != 0 || why != api.ErrArg {
				t.Errorf("Order(%v, %v): %d, %v", a, b, order, why)
			}
			if order, why := dec.Order(b, a); order != 0 || why != api.ErrArg {
				t.Errorf("Order(%v, %v): %d, %v", b, a, order, why)
			}
		}
	}
}

// P6.4, P6.6: Order against the fractions that the numbers are; numbers that stand alike are the same.
func TestOrderModel(t *testing.T) {
	c := chance(64)
	numbers := rights()
	for range 150 {
		numbers = append(numbers, c.number())
	}
	values := make([]*big.Rat, len(numbers))
	for i, n := range numbers {
		values[i] = value(t, n)
	}
	for i, a := range numbers {
		for j, b := range numbers {
			order, why := dec.Order(a, b)
			if order != values[i].Cmp(values[j]) || why != api.OK {
				t.Fatalf("Order(%v, %v): %d, %v", a, b, order, why)
			}
			if (order == 0) != (a == b) {
				t.Fatalf("Order(%v, %v): %d", a, b, order)
			}
		}
	}
}

// P6.5: Parse of Text is the number.
func TestParseOfText(t *testing.T) {
	c := chance(65)
	numbers := rights()
	for range 2000 {
		numbers = append(numbers, c.number())
	}
	for _, n := range numbers {
		if back, f := dec.Parse(dec.Text(n)); back != n || f != (api.Fault{}) {
			t.Fatalf("Parse(Text(%v)): %v, %v", n, back, f)
		}
	}
}

// P6.6: texts of one number are read as the same one, and stand alike.
func TestSameNumber(t *testing.T) {
	for _, texts := range [][]string{
		{"0", "-0", "0.000", "0e99", "-0.0E-7"},
		{"1.50", "15e-1", "1.5", "150e-2", "0.15e1", "0.00150E+3", "1.5e0"},
		{"-1000", "-1e3", "-10e2", "-0.1e4", "-1000.00"},
	} {
		for _, s := range texts {
			a, _ := dec.Parse(texts[0])
			b, f := dec.Parse(s)
			if order, why := dec.Order(a, b); a != b || f != (api.Fault{}) || order != 0 || why != api.OK {
				t.Errorf("%q and %q: %v, %v, %d, %v", texts[0], s, a, b, order, why)
			}
		}
	}
}

// P6.7: the order turns round with its sides and with the signs, and goes on.
func TestOrderTurnsAndGoesOn(t *testing.T) {
	c := chance(67)
	numbers := rights()
	for range 60 {
		numbers = append(numbers, c.number())
	}
	order := func(a, b api.Number) int {
		n, why := dec.Order(a, b)
		if why != api.OK {
			t.Fatalf("Order(%v, %v): %v", a, b, why)
		}
		return n
	}
	for _, a := range numbers {
		for _, b := range numbers {
			here := order(a, b)
			if there := order(b, a); here != -there {
				t.Fatalf("%v and %v: %d, and turned round %d", a, b, here, there)
			}
			if there := order(turned(a), turned(b)); here != -there {
				t.Fatalf("%v and %v: %d, and with the other signs %d", a, b, here, there)
			}
			for _, d := range numbers {
				if here <= 0 && order(b, d) <= 0 && order(a, d) > 0 {
					t.Fatalf("%v, %v, %v do not go on", a, b, d)
				}
			}
		}
	}
}

// within tells whether two texts share memory.
func within(a, b string) bool {
	if a == "" || b == "" {
		return false
	}
	first, second := uintptr(unsafe.Pointer(unsafe.StringData(a))), uintptr(unsafe.Pointer(unsafe.StringData(b)))
	return first < second+uintptr(len(b)) && second < first+uintptr(len(a))
}

// R4: what is answered is new memory, also where nothing had to be turned.
func TestNewMemory(t *testing.T) {
	for _, s := range []string{"1234567", "0012345000"} {
		digits := strings.Clone(s)
		if n, why := dec.Make(false, digits, 0); why != api.OK || within(n.Digits, digits) {
			t.Errorf("Make of %q keeps its digits, or answers %v", s, why)
		}
	}
	s := strings.Clone("1234567")
	n, f := dec.Parse(s)
	if f != (api.Fault{}) || within(n.Digits, s) {
		t.Errorf("Parse keeps its text, or answers %v", f)
	}
	if text := dec.Text(n); text != s || within(text, n.Digits) {
		t.Errorf("Text: %q", text)
	}
	if whole, ok := dec.Whole(n); whole != s || !ok || within(whole, n.Digits) {
		t.Errorf("Whole: %q, %v", whole, ok)
	}
}

// R3: the same arguments have the same answers, whatever was asked between.
func TestSameAnswers(t *testing.T) {
	answers := func() []string {
		var all []string
		for _, n := range append(rights(), wrongs()...) {
			whole, ok := dec.Whole(n)
			back, f := dec.Parse(dec.Text(n))
			all = append(all, dec.Text(n), whole, strconv.FormatBool(ok), back.Digits, f.Why.Error())
		}
		return all
	}
	first := answers()
	if !slices.Equal(first, answers()) {
		t.Error("the same calls have other answers")
	}
}
