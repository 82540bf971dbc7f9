package csay_test

import (
	"bytes"
	"fmt"
	"math"
	"math/big"
	"reflect"
	"slices"
	"strings"
	"testing"

	"gantline/api"
	"gantline/cread"
	"gantline/csay"
	"gantline/tree"
)

// P13.1: the document's examples.
func TestExamples(t *testing.T) {
	expectBytes(t, num(500), unhex("19 01 F4"))
	expectBytes(t, decNode(false, "25", -1), unhex("C4 82 20 18 19"))
	expectBytes(t, arrayNode(num(1)), unhex("81 01"))
	expectBytes(t, bytesNode(255), unhex("41 FF"))
	expectBytes(t, arrayNode(num(1), decNode(false, "25", -1)), unhex("82 01 C4 82 20 18 19"))
}

// heads are arguments, and what stands behind the first byte, whose low bits are the last number.
func heads() []struct {
	n      uint64
	behind string
	low    int
} {
	return []struct {
		n      uint64
		behind string
		low    int
	}{
		{0, "", 0}, {1, "", 1}, {22, "", 22}, {23, "", 23},
		{24, "18", 24}, {25, "19", 24}, {28, "1c", 24}, {31, "1f", 24}, {100, "64", 24}, {254, "fe", 24}, {255, "ff", 24},
		{256, "01 00", 25}, {257, "01 01", 25}, {500, "01 f4", 25}, {65534, "ff fe", 25}, {65535, "ff ff", 25},
		{65536, "00 01 00 00", 26}, {16909060, "01 02 03 04", 26}, {4294967294, "ff ff ff fe", 26}, {4294967295, "ff ff ff ff", 26},
		{4294967296, "00 00 00 01 00 00 00 00", 27}, {72623859790382856, "01 02 03 04 05 06 07 08", 27}, {1 << 63, "80 00 00 00 00 00 00 00", 27},
		{18446744073709551614, "ff ff ff ff ff ff ff fe", 27}, {18446744073709551615, "ff ff ff ff ff ff ff ff", 27},
	}
}

// P13.1: the beginnings of items of each major type, with arguments at all bounds of their widths.
func TestHead(t *testing.T) {
	for major := range 7 {
		for _, h := range heads() {
			want := joined([]byte{byte(major*32 + h.low)}, unhex(h.behind))
			if got, why := csay.Head(major, h.n); why != api.OK || !bytes.Equal(got, want) {
				t.Fatalf("Head(%d, %d) is %s, %v: not %s", major, h.n, short(got), why, short(want))
			}
		}
	}
	c := chance(130)
	for range 5000 {
		major, n := c.below(7), c.number()
		if got, why := csay.Head(major, n); why != api.OK || !bytes.Equal(got, modelHead(major, n)) {
			t.Fatalf("Head(%d, %d) is %s, %v", major, n, short(got), why)
		}
	}
}

// P13.1, R1: no head of other numbers than those of major types.
func TestHeadOfNone(t *testing.T) {
	for _, major := range []int{-1, 7, 8, -2, -7, 15, 31, 32, 255, 256, 257, 1 << 32, -1 << 32, math.MaxInt, math.MinInt, math.MinInt + 1, -249, 1<<62 + 1} {
		for _, h := range heads() {
			if got, why := csay.Head(major, h.n); why != api.ErrArg || len(got) != 0 {
				t.Fatalf("Head(%d, %d) is %s, %v", major, h.n, short(got), why)
			}
		}
	}
}

// P13.1: what Head answers begins the items that are encoded.
func TestHeadBeginsItems(t *testing.T) {
	for _, h := range heads() {
		whole, _ := csay.Head(0, h.n)
		expectBytes(t, bigNode(new(big.Int).SetUint64(h.n)), whole)
		below, _ := csay.Head(1, h.n)
		expectBytes(t, bigNode(new(big.Int).Not(new(big.Int).SetUint64(h.n))), below)
		tag, _ := csay.Head(6, h.n)
		expectBytes(t, tagNode(h.n, nullNode()), append(tag, 0xF6))
	}
}

// plain are nodes without others, by their bytes.
func plain() map[string]api.Node {
	return map[string]api.Node{
		"f6":                               nullNode(),
		"f4":                               boolNode(0),
		"f5":                               boolNode(1),
		"00":                               num(0),
		"07":                               num(7),
		"17":                               num(23),
		"18 18":                            num(24),
		"19 03 e8":                         num(1000),
		"1a 00 0f 42 40":                   num(1000000),
		"20":                               num(-1),
		"29":                               num(-10),
		"38 63":                            num(-100),
		"c2 49 01 00 00 00 00 00 00 00 00": intNode(false, "18446744073709551616"),
		"c3 49 01 00 00 00 00 00 00 00 00": intNode(true, "18446744073709551617"),
		"c4 82 20 03":                      decNode(false, "3", -1),
		"c4 82 20 22":                      decNode(true, "3", -1),
		"c4 82 21 19 6a b3":                decNode(false, "27315", -2),
		"c4 82 19 03 20 01":                decNode(false, "1", 800),
		"c4 82 19 07 d0 38 18":             decNode(true, "25", 2000),
		"c4 82 39 07 cf 01":                decNode(false, "1", -2000),
		"c4 82 20 c2 49 01 00 00 00 00 00 00 00 01":       decNode(false, "18446744073709551617", -1),
		"c4 82 19 07 cf c3 49 01 00 00 00 00 00 00 00 00": decNode(true, "18446744073709551617", 1999),
		"f9 3c 00":                   float(1),
		"f9 80 00":                   float(math.Copysign(0, -1)),
		"fa 47 c3 50 00":             float(100000),
		"fb 3f f1 99 99 99 99 99 9a": float(1.1),
		"f9 7e 00":                   floatNode(0x7FF8000000000000),
		"f9 fc 00":                   float(math.Inf(-1)),
		"60":                         textNode(""),
		"61 61":                      textNode("a"),
		"64 49 45 54 46":             textNode("IETF"),
		"62 22 5c":                   textNode("\"\\"),
		"62 c3 bc":                   textNode("\u00fc"),
		"63 e6 b0 b4":                textNode("\u6c34"),
		"64 f0 90 85 91":             textNode("\U00010151"),
		"61 00":                      textNode("\x00"),
		"40":                         bytesNode(),
		"41 00":                      bytesNode(0),
		"44 01 02 03 04":             bytesNode(1, 2, 3, 4),
		"42 c3 28":                   bytesNode(0xC3, 0x28),
		"e0":                         simpleNode(0),
		"f0":                         simpleNode(16),
		"f3":                         simpleNode(19),
		"f7":                         simpleNode(23),
		"f8 20":                      simpleNode(32),
		"f8 ff":                      simpleNode(255),
		"80":                         arrayNode(),
		"a0":                         mapNode(),
	}
}

// P13.1, P13.3: each Kind of node, alone and within others.
func TestEachKind(t *testing.T) {
	kinds := map[int]bool{api.Tag: true}
	for digits, n := range plain() {
		b := unhex(digits)
		kinds[n.Kind] = true
		expectBytes(t, n, b)
		expectBytes(t, arrayNode(n), joined(unhex("81"), b))
		expectBytes(t, arrayNode(n, num(1), n), joined(unhex("83"), b, unhex("01"), b))
		expectBytes(t, mapNode(n, n), joined(unhex("a1"), b, b))
		expectBytes(t, mapNode(textNode("k"), arrayNode(), arrayNode(n), n), joined(unhex("a2 61 6b 80 81"), b, b))
		expectBytes(t, tagNode(5, n), joined(unhex("c5"), b))
		expectBytes(t, tagNode(1<<32, tagNode(256, n)), joined(unhex("db 00 00 00 01 00 00 00 00 d9 01 00"), b))
		for _, whole := range places(n) {
			if why := expectModel(t, whole); why != api.OK {
				t.Fatalf("%s: %v", small(whole), why)
			}
		}
	}
	if len(kinds) != api.Simple+1 {
		t.Fatal("not each Kind:", kinds)
	}
}

// P13.1: Ints at all bounds: by their major type up to 2^64 - 1 and down to -2^64, by a tag beyond.
func TestInts(t *testing.T) {
	for digits, b := range map[string]string{
		"0":                       "00",
		"1":                       "01",
		"23":                      "17",
		"24":                      "18 18",
		"255":                     "18 ff",
		"256":                     "19 01 00",
		"65535":                   "19 ff ff",
		"65536":                   "1a 00 01 00 00",
		"4294967295":              "1a ff ff ff ff",
		"4294967296":              "1b 00 00 00 01 00 00 00 00",
		"9223372036854775807":     "1b 7f ff ff ff ff ff ff ff",
		"9223372036854775808":     "1b 80 00 00 00 00 00 00 00",
		"18446744073709551614":    "1b ff ff ff ff ff ff ff fe",
		"18446744073709551615":    "1b ff ff ff ff ff ff ff ff",
		"18446744073709551616":    "c2 49 01 00 00 00 00 00 00 00 00",
		"18446744073709551617":    "c2 49 01 00 00 00 00 00 00 00 01",
		"4722366482869645213695":  "c2 49 ff ff ff ff ff ff ff ff ff",
		"4722366482869645213696":  "c2 4a 01 00 00 00 00 00 00 00 00 00",
		"-1":                      "20",
		"-24":                     "37",
		"-25":                     "38 18",
		"-256":                    "38 ff",
		"-257":                    "39 01 00",
		"-65536":                  "39 ff ff",
		"-65537":                  "3a 00 01 00 00",
		"-4294967296":             "3a ff ff ff ff",
		"-4294967297":             "3b 00 00 00 01 00 00 00 00",
		"-9223372036854775808":    "3b 7f ff ff ff ff ff ff ff",
		"-9223372036854775809":    "3b 80 00 00 00 00 00 00 00",
		"-18446744073709551615":   "3b ff ff ff ff ff ff ff fe",
		"-18446744073709551616":   "3b ff ff ff ff ff ff ff ff",
		"-18446744073709551617":   "c3 49 01 00 00 00 00 00 00 00 00",
		"-18446744073709551618":   "c3 49 01 00 00 00 00 00 00 00 01",
		"-4722366482869645213696": "c3 49 ff ff ff ff ff ff ff ff ff",
		"-4722366482869645213697": "c3 4a 01 00 00 00 00 00 00 00 00 00",
	} {
		n := bigNode(bigOf(false, digits))
		expectBytes(t, n, unhex(b))
		expectBytes(t, arrayNode(n, num(1)), joined(unhex("82"), unhex(b), unhex("01")))
	}
}

// power is 10 to the power of n.
func power(n int64) *big.Int { return new(big.Int).Exp(big.NewInt(10), big.NewInt(n), nil) }

// P13.1: Ints and Decs of as many digits as layer 5 takes, and one more; great powers of 2, and their neighbours.
func TestGreatNumbers(t *testing.T) {
	one := big.NewInt(1)
	nines := new(big.Int).Sub(power(mostDigits), one)
	expectBytes(t, bigNode(nines), joined(unhex("c2 59 01 4d"), nines.Bytes()))
	expectBytes(t, bigNode(new(big.Int).Neg(nines)), joined(unhex("c3 59 01 4d"), new(big.Int).Sub(nines, one).Bytes()))
	expectBytes(t, bigNode(power(799)), joined(unhex("c2 59 01 4c"), power(799).Bytes()))
	expectBytes(t, decNode(true, nines.String(), 2000), joined(unhex("c4 82 19 07 d0 c3 59 01 4d"), new(big.Int).Sub(nines, one).Bytes()))
	expectBytes(t, decNode(false, nines.String(), -2000), joined(unhex("c4 82 39 07 cf c2 59 01 4d"), nines.Bytes()))
	for _, neg := range []bool{false, true} {
		expectError(t, intNode(neg, strings.Repeat("9", mostDigits+1)), api.ErrNum)
		expectError(t, intNode(neg, "1"+strings.Repeat("0", mostDigits)), api.ErrNum)
		expectError(t, decNode(neg, strings.Repeat("9", mostDigits+1), -1), api.ErrNum)
	}
	for shift := uint(1); shift < 2656; shift += 1 + shift/40 {
		for _, more := range []int64{-1, 0, 1} {
			n := new(big.Int).Lsh(one, shift)
			n.Add(n, big.NewInt(more))
			expectBytes(t, bigNode(n), modelBig(n))
			n.Neg(n)
			expectBytes(t, bigNode(n), modelBig(n))
		}
	}
}

// P13.1: Decs of both signs with an Exp of both signs, at the bounds of both numbers.
func TestDecs(t *testing.T) {
	exps := map[int]string{
		-1: "20", -2: "21", -24: "37", -25: "38 18", -256: "38 ff", -257: "39 01 00", -1999: "39 07 ce", -2000: "39 07 cf",
		800: "19 03 20", 801: "19 03 21", 1024: "19 04 00", 1999: "19 07 cf", 2000: "19 07 d0",
	}
	for exp, first := range exps {
		for digits, both := range map[string][2]string{
			"1":                    {"01", "20"},
			"9":                    {"09", "28"},
			"24":                   {"18 18", "37"},
			"25":                   {"18 19", "38 18"},
			"255":                  {"18 ff", "38 fe"},
			"256":                  {"19 01 00", "38 ff"},
			"257":                  {"19 01 01", "39 01 00"},
			"65536":                {"1a 00 01 00 00", "39 ff ff"},
			"4294967296":           {"1b 00 00 00 01 00 00 00 00", "3a ff ff ff ff"},
			"18446744073709551615": {"1b ff ff ff ff ff ff ff ff", "3b ff ff ff ff ff ff ff fe"},
			"18446744073709551616": {"c2 49 01 00 00 00 00 00 00 00 00", "3b ff ff ff ff ff ff ff ff"},
			"18446744073709551617": {"c2 49 01 00 00 00 00 00 00 00 01", "c3 49 01 00 00 00 00 00 00 00 00"},
		} {
			expectBytes(t, decNode(false, digits, exp), joined(unhex("c4 82"), unhex(first), unhex(both[0])))
			expectBytes(t, decNode(true, digits, exp), joined(unhex("c4 82"), unhex(first), unhex(both[1])))
		}
	}
	// Not whole by so many digits, though the Exp is small.
	long := strings.Repeat("3", mostDigits)
	expectBytes(t, decNode(false, long, 1), joined(unhex("c4 82 01"), modelBig(bigOf(false, long))))
	expectBytes(t, decNode(true, long, 23), joined(unhex("c4 82 17"), modelBig(bigOf(true, long))))
	expectBytes(t, decNode(true, long[1:], 24), joined(unhex("c4 82 18 18"), modelBig(bigOf(true, long[1:]))))
}

// P13.1: Floats that are told in 16, 32 and 64 bits, also no numbers, without bound, zeros and the least ones.
func TestFloats(t *testing.T) {
	for bits, b := range map[uint64]string{
		0:                  "f9 00 00",
		0x8000000000000000: "f9 80 00",
		0x3FF0000000000000: "f9 3c 00",
		0xBFF0000000000000: "f9 bc 00",
		0x3FF8000000000000: "f9 3e 00",
		0x40EFFC0000000000: "f9 7b ff", // 65504, the greatest half
		0x40EFFE0000000000: "fa 47 7f f0 00",
		0x40F0000000000000: "fa 47 80 00 00", // 65536
		0x3E70000000000000: "f9 00 01",       // 2^-24, the least half
		0x3F10000000000000: "f9 04 00",
		0x3F0FF80000000000: "f9 03 ff",
		0x3F0FFC0000000000: "fa 38 7f e0 00",
		0x3E60000000000000: "fa 33 00 00 00", // 2^-25
		0x40F86A0000000000: "fa 47 c3 50 00", // 100000
		0x3FF0040000000000: "f9 3c 01",
		0x3FF0020000000000: "fa 3f 80 10 00",
		0x47EFFFFFE0000000: "fa 7f 7f ff ff", // the greatest of 32 bits
		0x36A0000000000000: "fa 00 00 00 01", // the least of 32 bits
		0x3FF0000020000000: "fa 3f 80 00 01",
		0x3FF0000010000000: "fb 3f f0 00 00 10 00 00 00",
		0x47EFFFFFF0000000: "fb 47 ef ff ff f0 00 00 00",
		0x47F0000000000000: "fb 47 f0 00 00 00 00 00 00",
		0x3690000000000000: "fb 36 90 00 00 00 00 00 00",
		0x3FF199999999999A: "fb 3f f1 99 99 99 99 99 9a",
		0xC010666666666666: "fb c0 10 66 66 66 66 66 66",
		0x7FEFFFFFFFFFFFFF: "fb 7f ef ff ff ff ff ff ff",
		0x0000000000000001: "fb 00 00 00 00 00 00 00 01",
		0x7FF0000000000000: "f9 7c 00",
		0xFFF0000000000000: "f9 fc 00",
		0x7FF8000000000000: "f9 7e 00",
		0xFFF8000000000000: "f9 fe 00",
		0x7FF0040000000000: "f9 7c 01",
		0xFFFFFC0000000000: "f9 ff ff",
		0x7FF0020000000000: "fa 7f 80 10 00",
		0x7FF0000020000000: "fa 7f 80 00 01",
		0xFFFFFFFFE0000000: "fa ff ff ff ff",
		0x7FF0000010000000: "fb 7f f0 00 00 10 00 00 00",
		0x7FF0000000000001: "fb 7f f0 00 00 00 00 00 01",
		0x7FF8000000000001: "fb 7f f8 00 00 00 00 00 01",
		0xFFFFFFFFFFFFFFFF: "fb ff ff ff ff ff ff ff ff",
	} {
		expectBytes(t, floatNode(bits), unhex(b))
		expectBytes(t, arrayNode(floatNode(bits), num(1)), joined(unhex("82"), unhex(b), unhex("01")))
	}
	for half := range uint64(1 << 16) {
		if got, why := csay.Encode(floatNode(widened(half, 25))); why != api.OK || !bytes.Equal(got, begin(7, 25, half)) {
			t.Fatalf("%x: %s, %v", half, short(got), why)
		}
	}
	c := chance(131)
	for range 20000 {
		bits := c.bits()
		expectBytes(t, floatNode(bits), modelFloat(bits))
	}
}

// P13.1: Texts and Bytes of lengths at all bounds of their heads.
func TestTextsAndBytes(t *testing.T) {
	for length, head := range map[int]string{
		0: "00", 1: "01", 2: "02", 23: "17", 24: "18 18", 25: "18 19", 254: "18 fe", 255: "18 ff", 256: "19 01 00", 257: "19 01 01", 1000: "19 03 e8", 4092: "19 0f fc", 4093: "19 0f fd",
	} {
		text, run := strings.Repeat("a", length), times(length, 0xFF)
		first := unhex(head)
		first[0] |= 3 << 5
		expectBytes(t, textNode(text), joined(first, []byte(text)))
		first[0] ^= 1 << 5
		expectBytes(t, bytesNode(run...), joined(first, run))
	}
	// The length counts bytes, not characters.
	expectBytes(t, textNode(strings.Repeat("\u00e9", 11)), joined(unhex("76"), times(11, 0xC3, 0xA9)))
	expectBytes(t, textNode(strings.Repeat("\u00e9", 12)), joined(unhex("78 18"), times(12, 0xC3, 0xA9)))
	expectBytes(t, textNode(strings.Repeat("\U0001F600", 64)), joined(unhex("79 01 00"), times(64, 0xF0, 0x9F, 0x98, 0x80)))
	expectBytes(t, textNode("\x00\"\\\n\u2028"), unhex("67 00 22 5c 0a e2 80 a8"))
}

// P13.1: Arrays and Maps of none, one, several, and of counts at the bounds of their heads; pairs keep their order.
func TestArraysAndMaps(t *testing.T) {
	for count, head := range map[int]string{0: "00", 1: "01", 2: "02", 22: "16", 23: "17", 24: "18 18", 25: "18 19", 255: "18 ff", 256: "19 01 00", 257: "19 01 01", 511: "19 01 ff"} {
		first := unhex(head)
		first[0] |= 4 << 5
		expectBytes(t, row(num(9), count), joined(first, times(count, 9)))
		first[0] |= 1 << 5
		var pairs []byte
		for i := range count {
			pairs = joined(pairs, modelHead(0, uint64(i)), unhex("60"))
		}
		expectBytes(t, manyKeys(count, textNode("")), joined(first, pairs))
	}
	one, two := num(1), num(2)
	for b, n := range map[string]api.Node{
		"82 01 02":                      arrayNode(one, two),
		"82 02 01":                      arrayNode(two, one),
		"83 01 01 01":                   arrayNode(one, one, one),
		"81 80":                         arrayNode(arrayNode()),
		"82 80 a0":                      arrayNode(arrayNode(), mapNode()),
		"82 81 01 02":                   arrayNode(arrayNode(one), two),
		"82 01 81 02":                   arrayNode(one, arrayNode(two)),
		"a1 01 02":                      mapNode(one, two),
		"a1 02 01":                      mapNode(two, one),
		"a2 01 02 02 01":                mapNode(one, two, two, one),
		"a2 02 01 01 02":                mapNode(two, one, one, two),
		"a3 61 62 01 61 61 02 60 80":    mapNode(textNode("b"), one, textNode("a"), two, textNode(""), arrayNode()),
		"a1 80 a0":                      mapNode(arrayNode(), mapNode()),
		"a1 a1 01 02 a1 02 01":          mapNode(mapNode(one, two), mapNode(two, one)),
		"a2 f6 f6 f4 f5":                mapNode(nullNode(), nullNode(), boolNode(0), boolNode(1)),
		"a1 c5 01 c6 02":                mapNode(tagNode(5, one), tagNode(6, two)),
		"c5 c6 81 c7 a1 01 02":          tagNode(5, tagNode(6, arrayNode(tagNode(7, mapNode(one, two))))),
		"a2 01 41 01 f9 3c 00 61 01":    mapNode(one, bytesNode(1), float(1), textNode("\x01")),
		"a1 61 61 82 01 c4 82 20 18 19": mapNode(textNode("a"), arrayNode(one, decNode(false, "25", -1))),
	} {
		expectBytes(t, n, unhex(b))
	}
}

// P13.1: each Simple that may be, and those that may not.
func TestSimples(t *testing.T) {
	for n := range uint64(300) {
		switch {
		case n <= 19 || n == 23:
			expectBytes(t, simpleNode(n), []byte{0xE0 + byte(n)})
		case n >= 32 && n <= 255:
			expectBytes(t, simpleNode(n), []byte{0xF8, byte(n)})
		default:
			expectError(t, simpleNode(n), api.ErrKind)
		}
	}
	expectError(t, simpleNode(1<<32), api.ErrKind)
	expectError(t, simpleNode(math.MaxUint64), api.ErrKind)
	expectError(t, simpleNode(1<<63+5), api.ErrKind)
}

// P13.1: Tags of all other numbers; of 2, 3 and 4 those that mean no number.
func TestTags(t *testing.T) {
	for _, tag := range []uint64{0, 1, 5, 6, 21, 23, 24, 32, 255, 256, 258, 65535, 65536, 4294967295, 4294967296, math.MaxUint64, 2 << 8, 3 << 32, 1<<63 + 4} {
		for b, kid := range map[string]api.Node{"41 01": bytesNode(1), "82 01 02": arrayNode(num(1), num(2)), "f6": nullNode(), "40": bytesNode(), "c1 61 61": tagNode(1, textNode("a"))} {
			expectBytes(t, tagNode(tag, kid), joined(modelHead(6, tag), unhex(b)))
		}
	}
	for digits, kid := range plain() {
		for tag := uint64(2); tag <= 4; tag++ {
			if kid.Kind != api.Bytes || tag == 4 {
				expectBytes(t, tagNode(tag, kid), joined([]byte{0xC0 + byte(tag)}, unhex(digits)))
			}
			expectBytes(t, tagNode(tag, arrayNode(kid)), joined([]byte{0xC0 + byte(tag), 0x81}, unhex(digits)))
			expectBytes(t, tagNode(tag, tagNode(1, kid)), joined([]byte{0xC0 + byte(tag), 0xC1}, unhex(digits)))
			expectBytes(t, tagNode(tag, mapNode(num(1), kid)), joined([]byte{0xC0 + byte(tag), 0xA1, 1}, unhex(digits)))
		}
	}
	one := num(1)
	for b, kid := range map[string]api.Node{
		"83 01 01 01":       arrayNode(one, one, one),
		"82 01 f6":          arrayNode(one, nullNode()),
		"82 f6 01":          arrayNode(nullNode(), one),
		"82 01 f9 3c 00":    arrayNode(one, float(1)),
		"82 c4 82 20 03 01": arrayNode(decNode(false, "3", -1), one),
		"82 01 c4 82 20 03": arrayNode(one, decNode(false, "3", -1)),
		"82 01 c5 01":       arrayNode(one, tagNode(5, one)),
		"82 41 01 41 01":    arrayNode(bytesNode(1), bytesNode(1)),
		"a1 01 01":          mapNode(one, one),
	} {
		expectBytes(t, tagNode(4, kid), joined(unhex("c4"), unhex(b)))
		expectBytes(t, arrayNode(tagNode(4, kid), one), joined(unhex("82 c4"), unhex(b), unhex("01")))
	}
}

// readAsNumbers are Tags that are read as numbers, or refused as such.
func readAsNumbers() []api.Node {
	one := num(1)
	nodes := []api.Node{
		tagNode(4, arrayNode(one, one)), tagNode(4, arrayNode(num(-1), num(25))), tagNode(4, arrayNode(num(-1), num(-25))), tagNode(4, arrayNode(num(0), num(0))), tagNode(4, arrayNode(num(-1), num(10))),
		tagNode(4, arrayNode(num(2001), one)), tagNode(4, arrayNode(num(-2001), one)), tagNode(4, arrayNode(num(1_000_001), num(0))), tagNode(4, arrayNode(one, bigNode(power(799)))),
		tagNode(4, arrayNode(bigNode(power(799)), one)), tagNode(4, arrayNode(bigNode(power(20)), bigNode(new(big.Int).Neg(power(20))))),
	}
	for _, b := range [][]byte{nil, {0}, {1}, {255}, {0, 0, 1}, times(8, 255), times(9, 1), times(332, 255), times(333, 255), times(400, 0), times(401, 0), times(4000, 7)} {
		nodes = append(nodes, tagNode(2, bytesNode(b...)), tagNode(3, bytesNode(b...)))
	}
	return nodes
}

// P13.1: a Tag 2 or 3 of Bytes, and a Tag 4 of an Array of two Int, wherever they stand: ErrKind.
func TestTagsReadAsNumbers(t *testing.T) {
	for _, n := range readAsNumbers() {
		for _, whole := range []api.Node{
			n, arrayNode(n), arrayNode(num(1), n), arrayNode(n, num(1)), mapNode(n, num(1)), mapNode(num(1), n), tagNode(5, n), tagNode(2, n), tagNode(4, n),
			tagNode(4, arrayNode(num(1), n)), tagNode(4, arrayNode(n, num(1))), tagNode(2, tagNode(2, n)), arrayNode(mapNode(textNode("a"), tagNode(6, arrayNode(n)))), within(n, 9), within(n, 12), within(n, 20),
		} {
			expectError(t, whole, api.ErrKind)
			if modelWhy(whole) != api.ErrKind {
				t.Fatalf("the model says %v of %s", modelWhy(whole), small(whole))
			}
		}
	}
	// Keys that are not the same, but would be read as the same.
	expectError(t, mapNode(num(1), nullNode(), tagNode(2, bytesNode(1)), nullNode()), api.ErrKind)
	expectError(t, mapNode(tagNode(2, bytesNode(0)), nullNode(), tagNode(2, bytesNode()), nullNode()), api.ErrKind)
}

// P13.1: 4096 bytes may be, 4097 may not: by one Text, by Bytes, a Key, Tags, numbers, Floats, and many nodes.
func TestBytesBound(t *testing.T) {
	a := func(n int) api.Node { return textNode(strings.Repeat("a", n)) }
	b := func(n int) api.Node { return bytesNode(times(n, 0xC2)...) }
	long := bigNode(new(big.Int).Sub(power(mostDigits), big.NewInt(1)))
	for name, at := range map[string]func(more int) api.Node{
		"one Text":         func(more int) api.Node { return a(4093 + more) },
		"one Bytes":        func(more int) api.Node { return b(4093 + more) },
		"a Text in Arrays": func(more int) api.Node { return arrayNode(arrayNode(a(4091 + more))) },
		"Bytes in a Tag":   func(more int) api.Node { return tagNode(1<<32, b(4084+more)) },
		"a Key":            func(more int) api.Node { return mapNode(a(4091+more), num(1)) },
		"a Key and a Kid":  func(more int) api.Node { return mapNode(a(2000), b(2089+more)) },
		"two Texts":        func(more int) api.Node { return arrayNode(a(2000), a(2089+more)) },
		"all behind it":    func(more int) api.Node { return arrayNode(a(4090+more), arrayNode(), nullNode()) },
		"all ahead of it":  func(more int) api.Node { return arrayNode(num(-1), arrayNode(), a(4090+more)) },
		"Ints":             func(more int) api.Node { return arrayNode(row(long, 12), a(48+more)) },
		"Ints below 0":     func(more int) api.Node { return arrayNode(row(intNode(true, long.Digits), 12), a(48+more)) },
		"Decs":             func(more int) api.Node { return arrayNode(row(decNode(true, "27315", -2), 255), a(2560+more)) },
		"Floats":           func(more int) api.Node { return arrayNode(row(float(1.1), 400), row(float(100000), 60), a(188+more)) },
		"words": func(more int) api.Node {
			return arrayNode(row(intNode(false, "18446744073709551615"), 450), a(40+more))
		},
		"the depth":  func(more int) api.Node { return within(a(4053+more), 23) },
		"many nodes": func(more int) api.Node { return arrayNode(row(num(65536), 800), row(simpleNode(200), 28), a(32+more)) },
		"characters": func(more int) api.Node {
			return textNode(strings.Repeat("\U0001F600", 1023) + strings.Repeat("a", 1+more))
		},
		"many Keys": func(more int) api.Node {
			return arrayNode(manyKeys(500, num(-1000)), a(1369+more))
		},
	} {
		exact := at(0)
		if length := len(modelBytes(exact)); length != mostBytes {
			t.Fatalf("%s: %d bytes", name, length)
		}
		expectBytes(t, exact, modelBytes(exact))
		if less := at(-1); len(modelBytes(less)) == mostBytes-1 {
			expectBytes(t, less, modelBytes(less))
		}
		expectError(t, at(1), api.ErrMany)
		expectError(t, at(2), api.ErrMany)
	}
}

// P13.1: Texts and Bytes of up to 4096 bytes may be, but those of more than 4093 are too long when told.
func TestLongRuns(t *testing.T) {
	for length := 4090; length <= 4100; length++ {
		for _, n := range []api.Node{textNode(strings.Repeat("a", length)), bytesNode(times(length, 0)...)} {
			want := api.OK
			if length > 4093 {
				want = api.ErrMany
			}
			if why := expectModel(t, n); why != want {
				t.Fatal(length, why)
			}
			expectModel(t, arrayNode(n))
			expectModel(t, mapNode(n, n))
			expectModel(t, tagNode(2, n))
		}
	}
}

// P13.1: bytes that are far more than what they are made of are refused in time.
func TestFarTooLong(t *testing.T) {
	for _, leaf := range []api.Node{textNode(strings.Repeat("a", 4096)), bytesNode(times(4096, 1)...), bigNode(power(799)), decNode(true, strings.Repeat("7", mostDigits), -1)} {
		n := row(leaf, 990)
		for range mostDepth - 2 {
			n = arrayNode(n)
		}
		if tree.Check(n) != api.OK || tree.Deep(n) != mostDepth {
			t.Fatal(tree.Check(n), tree.Deep(n))
		}
		expectError(t, n, api.ErrMany)
	}
	keys := mapNode()
	for i := range 500 {
		keys.Keys = append(keys.Keys, textNode(fmt.Sprint(i)+strings.Repeat("a", 4000)))
		keys.Kids = append(keys.Kids, textNode(strings.Repeat("a", 4096)))
	}
	expectError(t, keys, api.ErrMany)
	expectError(t, arrayNode(bytesNode(times(4096, 0)...), nullNode(), arrayNode()), api.ErrMany)
	expectError(t, arrayNode(row(textNode(strings.Repeat("a", 50)), 90), nullNode()), api.ErrMany)
}

// P13.1: 1024 nodes are told; one more is not; Keys count.
func TestNodesBound(t *testing.T) {
	expectBytes(t, row(num(1), mostNodes-1), joined(unhex("99 03 ff"), times(mostNodes-1, 1)))
	expectError(t, row(num(1), mostNodes), api.ErrMany)
	expectBytes(t, row(arrayNode(), mostNodes-1), joined(unhex("99 03 ff"), times(mostNodes-1, 0x80)))
	expectError(t, row(arrayNode(), mostNodes), api.ErrMany)
	keys := arrayNode(manyKeys(511, nullNode()))
	if size := tree.Size(keys); size != mostNodes {
		t.Fatal(size)
	}
	expectBytes(t, keys, modelBytes(keys))
	expectError(t, arrayNode(manyKeys(511, nullNode()), num(1)), api.ErrMany)
	expectError(t, arrayNode(num(1), manyKeys(511, nullNode())), api.ErrMany)
}

// P13.1: the items that numbers are written as count: 1024 of them may be, with one more it is ErrKind, though the nodes are few.
func TestItemsBound(t *testing.T) {
	for _, k := range []struct {
		n    api.Node
		more int // how many items it has beside its first one
	}{
		{decNode(false, "3", -1), 3},
		{decNode(true, "25", 800), 3},
		{intNode(false, "18446744073709551616"), 1},
		{intNode(true, "18446744073709551617"), 1},
		{decNode(false, "18446744073709551617", -1), 4},
		{decNode(true, "18446744073709551617", 900), 4},
		{intNode(true, "18446744073709551616"), 0},
		{decNode(true, "18446744073709551616", -1), 3},
	} {
		for _, count := range []int{1, 2, 7, 100} {
			ones := mostNodes - 1 - count*(1+k.more)
			for _, at := range []func(ones int) api.Node{
				func(ones int) api.Node {
					return arrayNode(slices.Concat(row(num(1), ones).Kids, row(k.n, count).Kids)...)
				},
				func(ones int) api.Node {
					return arrayNode(slices.Concat(row(k.n, count).Kids, row(num(1), ones).Kids)...)
				},
				func(ones int) api.Node {
					return mapNode(k.n, arrayNode(row(k.n, count-1).Kids...), nullNode(), row(num(1), ones-3))
				},
			} {
				most := at(ones)
				if items, _ := modelItems(most); items != mostNodes {
					t.Fatal(items)
				}
				expectBytes(t, most, modelBytes(most))
				want := api.ErrKind
				if k.more == 0 {
					want = api.ErrMany
				}
				expectError(t, at(ones+1), want)
			}
		}
		if k.more > 0 {
			// As many as are few, and so many items too many.
			expectModel(t, row(k.n, 1023/(k.more+1)))
			if why := expectModel(t, row(k.n, 1023/(k.more+1)+1)); why == api.OK {
				t.Fatal("too many items")
			}
		}
	}
}

// P13.1: a depth of 24 may be, 25 not; the items that numbers are written as count, and are ErrKind.
func TestDepthBound(t *testing.T) {
	for digits, n := range plain() {
		_, depth := modelItems(n)
		for wrap, first := range map[string]func(n api.Node) api.Node{
			"81":    func(n api.Node) api.Node { return arrayNode(n) },
			"c5":    func(n api.Node) api.Node { return tagNode(5, n) },
			"a1 f6": func(n api.Node) api.Node { return mapNode(nullNode(), n) },
		} {
			whole, want := n, unhex(digits)
			for range mostDepth - depth {
				whole, want = first(whole), joined(unhex(wrap), want)
			}
			expectBytes(t, whole, want)
			for deeper := depth; deeper > 1; deeper-- {
				whole = first(whole)
				expectError(t, whole, api.ErrKind)
			}
			expectError(t, first(whole), api.ErrDeep)
		}
		expectModel(t, within(n, mostDepth-depth))
		key := mapNode(n, nullNode())
		for range mostDepth - depth - 1 {
			key = mapNode(key, nullNode())
		}
		expectBytes(t, key, joined(times(mostDepth-depth, 0xA1), unhex(digits), times(mostDepth-depth, 0xF6)))
		if depth > 1 {
			expectError(t, mapNode(key, nullNode()), api.ErrKind)
		} else {
			expectError(t, mapNode(key, nullNode()), api.ErrDeep)
		}
	}
}

// mayNotBe are nodes that layer 8's Check refuses, by what it says of them.
func mayNotBe() map[api.Errno][]api.Node {
	long := strings.Repeat("9", 801)
	a, b := textNode("a"), textNode("b")
	return map[api.Errno][]api.Node{
		api.ErrMany: {textNode(strings.Repeat("a", 4097)), bytesNode(times(4097, 0)...), textNode(strings.Repeat("\xFF", 4097))},
		api.ErrUtf:  {textNode("\xFF"), textNode("a\xC3"), textNode("\xED\xA0\x80"), textNode("\xC0\x80"), textNode("\xF4\x90\x80\x80b")},
		api.ErrNum: {
			intNode(false, ""), intNode(false, "01"), intNode(true, "0"), intNode(false, "-1"), intNode(false, "1.5"), intNode(false, "1e3"), intNode(false, "a"), intNode(true, long), intNode(true, ""), intNode(false, "00"),
			decNode(false, "", -1), decNode(false, "10", -1), decNode(false, "0", 0), decNode(false, "0", -1), decNode(true, "0", 0), decNode(false, "1", 0), decNode(true, "1", 2), decNode(false, "1", 799),
			decNode(false, "01", -1), decNode(false, "1", 2001), decNode(false, "1", -2001), decNode(false, long, -1), decNode(false, "x", -1), decNode(false, "1", math.MinInt), decNode(false, "1", math.MaxInt),
		},
		api.ErrKind: {
			{Kind: -1}, {Kind: 11}, {Kind: 1 << 62}, {Kind: math.MinInt}, boolNode(2), boolNode(1 << 63), simpleNode(20), simpleNode(21), simpleNode(22), simpleNode(24), simpleNode(31), simpleNode(256), {Kind: api.Tag},
			{Kind: api.Tag, Kids: []api.Node{{}, {}}}, {Kind: api.Map, Keys: []api.Node{a}}, {Kind: api.Map, Kids: []api.Node{{}}}, {Kind: api.Map, Keys: []api.Node{a, b}, Kids: []api.Node{{}}}, {Kind: api.Map, Keys: []api.Node{a}, Kids: []api.Node{{}, {}}},
			{Kind: api.Null, N: 1}, {Kind: api.Null, Neg: true}, {Kind: api.Null, Text: "a"}, {Kind: api.Bool, Exp: 1}, {Kind: api.Float, Digits: "1"}, {Kind: api.Int, Digits: "1", Exp: 2}, {Kind: api.Int, Digits: "1", N: 1},
			{Kind: api.Dec, Digits: "1", Exp: -1, Text: "a"}, {Kind: api.Text, Bytes: []byte("a")}, {Kind: api.Text, Text: "a", Kids: []api.Node{{}}}, {Kind: api.Bytes, Text: "a"}, {Kind: api.Array, Keys: []api.Node{a}, Kids: []api.Node{{}}},
			{Kind: api.Array, Text: "a"}, {Kind: api.Map, N: 1}, {Kind: api.Tag, Keys: []api.Node{a}, Kids: []api.Node{{}}}, {Kind: api.Simple, Neg: true},
		},
		api.ErrTwice: {
			mapNode(a, nullNode(), a, nullNode()), mapNode(num(1), a, b, nullNode(), num(1), b), mapNode(arrayNode(a), a, arrayNode(a), a), mapNode(mapNode(), a, mapNode(), b),
			mapNode(float(1), a, float(1), b), mapNode(decNode(false, "1", -1), a, decNode(false, "1", -1), a),
		},
	}
}

// P13.1: each error of layer 8's Check, at the root, as a Kid, as a Key, in a Tag, and deep within.
func TestErrorsOfCheck(t *testing.T) {
	for why, nodes := range mayNotBe() {
		for _, n := range nodes {
			if tree.Check(n) != why {
				t.Fatalf("Check(%s) is %v", small(n), tree.Check(n))
			}
			for _, whole := range places(n) {
				expectError(t, whole, why)
			}
			expectError(t, mapNode(n, nullNode()), why)
			expectError(t, mapNode(textNode("x"), nullNode(), n, nullNode()), why)
			expectError(t, tagNode(2, n), why)
		}
	}
	expectError(t, row(nullNode(), mostNodes), api.ErrMany)
	expectError(t, within(nullNode(), mostDepth), api.ErrDeep)
}

// P13.1, R1: of several errors the one that is named first: Check's, wherever it is, ahead of ErrMany of the bytes, and that ahead of ErrKind.
func TestErrorNamedFirst(t *testing.T) {
	long := bytesNode(times(4096, 0)...)
	deepNumber := within(decNode(false, "1", -1), mostDepth-2)
	manyItems := row(decNode(false, "1", -1), 300)
	for why, nodes := range mayNotBe() {
		for _, n := range nodes {
			expectError(t, arrayNode(long, n), why)
			expectError(t, arrayNode(n, long), why)
			expectError(t, mapNode(long, long, num(5), n), why)
			expectError(t, arrayNode(deepNumber, n), why)
			expectError(t, arrayNode(n, manyItems), why)
			for _, bad := range readAsNumbers() {
				expectError(t, arrayNode(bad, n), why)
				expectError(t, arrayNode(n, bad), why)
				expectError(t, arrayNode(long, bad, mapNode(textNode("z"), n)), why)
			}
		}
	}
	for _, bad := range append(readAsNumbers(), within(decNode(false, "1", -1), mostDepth-3), manyItems) {
		expectError(t, arrayNode(bad), api.ErrKind)
		for _, n := range []api.Node{arrayNode(long, bad), arrayNode(bad, long), mapNode(bad, long), mapNode(long, bad), arrayNode(row(textNode(strings.Repeat("a", 60)), 70), bad)} {
			if len(modelBytes(n)) <= mostBytes {
				t.Fatal("too few bytes")
			}
			expectError(t, n, api.ErrMany)
		}
		expectError(t, arrayNode(bad, row(nullNode(), mostNodes)), api.ErrMany)
		expectError(t, arrayNode(bad, within(nullNode(), mostDepth)), api.ErrDeep)
		expectError(t, arrayNode(long, bad, within(nullNode(), mostDepth)), api.ErrDeep)
		expectError(t, mapNode(bad, nullNode(), bad, nullNode()), api.ErrTwice)
	}
}

// R1: trees without an end, and such that share so many parts that they are not few, are refused, and every call ends.
func TestTreesWithoutEnd(t *testing.T) {
	kids := make([]api.Node, 1)
	kids[0] = api.Node{Kind: api.Array, Kids: kids}
	expectError(t, kids[0], api.ErrMany)
	keys := make([]api.Node, 1)
	keys[0] = api.Node{Kind: api.Map, Keys: keys, Kids: []api.Node{{}}}
	expectError(t, keys[0], api.ErrMany)
	tag := make([]api.Node, 1)
	tag[0] = api.Node{Kind: api.Tag, N: 4, Kids: tag}
	expectError(t, tag[0], api.ErrMany)
	doubled, chain := nullNode(), nullNode()
	for range 60 {
		doubled = arrayNode(doubled, doubled)
	}
	expectError(t, doubled, api.ErrMany)
	for range 100_000 {
		chain = tagNode(1, chain)
	}
	expectError(t, chain, api.ErrMany)
	expectError(t, row(nullNode(), 1_000_000), api.ErrMany)
	expectError(t, textNode(strings.Repeat("a", 1_000_000)), api.ErrMany)
	expectError(t, bytesNode(make([]byte, 1_000_000)...), api.ErrMany)
	expectError(t, intNode(true, strings.Repeat("1", 1_000_000)), api.ErrNum)
	expectError(t, api.Node{Kind: api.Null, Keys: make([]api.Node, 5)}, api.ErrKind)
	expectError(t, api.Node{Kind: api.Null, Keys: make([]api.Node, 5000)}, api.ErrMany)
}

// P13.2, P13.4: bytes with arguments wider than they need be, without an end, in parts, with numbers made of tags, and with Floats of more bits than they need.
func TestForm(t *testing.T) {
	for b, want := range map[string]string{
		"00":                                  "00",
		"18 00":                               "00",
		"18 17":                               "17",
		"18 18":                               "18 18",
		"19 00 18":                            "18 18",
		"1a 00 00 01 f4":                      "19 01 f4",
		"1b 00 00 00 00 00 00 00 05":          "05",
		"1b 00 00 00 00 ff ff ff ff":          "1a ff ff ff ff",
		"38 00":                               "20",
		"39 00 ff":                            "38 ff",
		"3b 00 00 00 00 00 00 00 00":          "20",
		"58 00":                               "40",
		"58 01 ff":                            "41 ff",
		"5b 00 00 00 00 00 00 00 02 01 02":    "42 01 02",
		"5f ff":                               "40",
		"5f 40 ff":                            "40",
		"5f 41 01 42 02 03 40 58 01 04 ff":    "44 01 02 03 04",
		"78 01 61":                            "61 61",
		"7a 00 00 00 02 c3 a9":                "62 c3 a9",
		"7f ff":                               "60",
		"7f 61 61 60 62 c3 a9 ff":             "63 61 c3 a9",
		"98 00":                               "80",
		"99 00 02 01 18 02":                   "82 01 02",
		"9f ff":                               "80",
		"9f 01 9f ff bf ff ff":                "83 01 80 a0",
		"b8 01 01 02":                         "a1 01 02",
		"bb 00 00 00 00 00 00 00 00":          "a0",
		"bf ff":                               "a0",
		"bf 02 01 18 01 02 ff":                "a2 02 01 01 02",
		"bf 9f 01 ff 7f 61 61 ff ff":          "a1 81 01 61 61",
		"d8 05 01":                            "c5 01",
		"da 00 00 01 00 5f ff":                "d9 01 00 40",
		"c2 40":                               "00",
		"c2 41 00":                            "00",
		"c2 41 17":                            "17",
		"c2 43 00 01 00":                      "19 01 00",
		"c2 48 ff ff ff ff ff ff ff ff":       "1b ff ff ff ff ff ff ff ff",
		"c2 49 01 00 00 00 00 00 00 00 00":    "c2 49 01 00 00 00 00 00 00 00 00",
		"c2 4a 00 01 00 00 00 00 00 00 00 00": "c2 49 01 00 00 00 00 00 00 00 00",
		"d8 02 5f 41 01 41 02 ff":             "19 01 02",
		"c3 40":                               "20",
		"c3 41 00":                            "20",
		"c3 48 ff ff ff ff ff ff ff ff":       "3b ff ff ff ff ff ff ff ff",
		"c3 49 01 00 00 00 00 00 00 00 00":    "c3 49 01 00 00 00 00 00 00 00 00",
		"c3 5f 44 00 00 01 00 ff":             "39 01 00",
		"c4 82 00 05":                         "05",
		"c4 82 01 05":                         "18 32",
		"c4 82 02 25":                         "39 02 57",
		"c4 82 20 0a":                         "01",
		"c4 82 20 29":                         "20",
		"c4 82 25 00":                         "00",
		"c4 82 13 01":                         "1b 8a c7 23 04 89 e8 00 00",
		"c4 82 14 01":                         "c2 49 05 6b c7 5e 2d 63 10 00 00",
		"c4 82 14 20":                         "c3 49 05 6b c7 5e 2d 63 0f ff ff",
		"c4 82 20 18 19":                      "c4 82 20 18 19",
		"c4 82 21 18 fa":                      "c4 82 20 18 19",
		"c4 82 21 38 f9":                      "c4 82 20 38 18",
		"d9 00 04 9f 38 00 1a 00 00 00 19 ff": "c4 82 20 18 19",
		"c4 82 c3 40 c2 41 19":                "c4 82 20 18 19",
		"c4 82 20 c4 82 00 07":                "c4 82 20 07",
		"c4 82 19 03 1f 0a":                   "c4 82 19 03 20 01",
		"c2 61 61":                            "c2 61 61",
		"c2 18 01":                            "c2 01",
		"c4 83 01 01 18 01":                   "c4 83 01 01 01",
		"c4 9f 01 ff":                         "c4 81 01",
		"c2 c2 41 01":                         "c2 01",
		"fb 3f f0 00 00 00 00 00 00":          "f9 3c 00",
		"fa 3f 80 00 00":                      "f9 3c 00",
		"fa 7f 80 00 00":                      "f9 7c 00",
		"fb 7f f8 00 00 00 00 00 00":          "f9 7e 00",
		"fb ff f0 00 00 20 00 00 00":          "fa ff 80 00 01",
		"fb 40 f8 6a 00 00 00 00 00":          "fa 47 c3 50 00",
		"fa 47 c3 50 00":                      "fa 47 c3 50 00",
		"fb 80 00 00 00 00 00 00 00":          "f9 80 00",
		"fb 3f f1 99 99 99 99 99 9a":          "fb 3f f1 99 99 99 99 99 9a",
		"f4":                                  "f4",
		"f6":                                  "f6",
		"f7":                                  "f7",
		"f8 20":                               "f8 20",
		"ee":                                  "ee",
	} {
		expectForm(t, unhex(b), unhex(want))
		expectForm(t, joined(unhex("9f"), unhex(b), unhex("18 01 ff")), joined(unhex("82"), unhex(want), unhex("01")))
		expectForm(t, joined(unhex("bf 7f 61 6b ff"), unhex(b), unhex("ff")), joined(unhex("a1 61 6b"), unhex(want)))
		expectForm(t, joined(unhex("b8 01"), unhex(b), unhex(b)), joined(unhex("a1"), unhex(want), unhex(want)))
		expectForm(t, joined(unhex("d9 00 07"), unhex(b)), joined(unhex("c7"), unhex(want)))
	}
}

// P13.2: bytes that layer 12 refuses: each fault, and its place, as layer 12 tells it.
func TestFormFaults(t *testing.T) {
	for b, want := range map[string]api.Fault{
		"":                                    {Why: api.ErrEnd, At: 0},
		"18":                                  {Why: api.ErrEnd, At: 1},
		"82 01":                               {Why: api.ErrEnd, At: 2},
		"5f 41 01":                            {Why: api.ErrEnd, At: 3},
		"43 01 02":                            {Why: api.ErrEnd, At: 3},
		"1c":                                  {Why: api.ErrForm, At: 0},
		"81 ff":                               {Why: api.ErrForm, At: 1},
		"ff":                                  {Why: api.ErrForm, At: 0},
		"f8 1f":                               {Why: api.ErrForm, At: 1},
		"bf 01 ff":                            {Why: api.ErrForm, At: 2},
		"5f 61 61 ff":                         {Why: api.ErrForm, At: 1},
		"61 ff":                               {Why: api.ErrUtf, At: 1},
		"82 01 62 61 c3":                      {Why: api.ErrUtf, At: 5},
		"a2 01 02 18 01 02":                   {Why: api.ErrTwice, At: 3},
		"a2 01 02 c2 41 01 02":                {Why: api.ErrTwice, At: 3},
		"00 00":                               {Why: api.ErrMore, At: 1},
		"9f ff ff":                            {Why: api.ErrMore, At: 2},
		"82 01 c4 82 19 07 d1 01":             {Why: api.ErrNum, At: 2},
		"59 10 01":                            {Why: api.ErrMany, At: 0},
		strings.Repeat("81", 25):              {Why: api.ErrDeep, At: 24},
		strings.Repeat("c5", 24) + "00":       {Why: api.ErrDeep, At: 24},
		strings.Repeat("81", 22) + "c4822018": {Why: api.ErrDeep, At: 24},
		"9f" + strings.Repeat("00", 1024):     {Why: api.ErrMany, At: 1024},
		strings.Repeat("00", 4097):            {Why: api.ErrMany, At: 0},
		"c2 59 01 91 " + strings.Repeat("00", 401): {Why: api.ErrNum, At: 0},
	} {
		expectFault(t, unhex(b), want.Why, want.At)
		if _, fault := cread.Decode(unhex(b)); fault != want {
			t.Fatalf("%s: layer 12 says %v", b, fault)
		}
	}
}

// P13.2: bytes that may be read, but whose tree has too many bytes: by numbers that were written shorter than they are told.
func TestFormTooLong(t *testing.T) {
	great := unhex("c4 82 19 03 1f 01")
	bytesOf := func(count, fill int) []byte {
		return joined(begin(4, 25, uint64(count+1)), bytes.Repeat(great, count), begin(2, 25, uint64(fill)), times(fill, 7))
	}
	told := modelBig(power(799))
	if len(told) != 336 {
		t.Fatal(len(told))
	}
	fill := mostBytes - 12*len(told) - 1 - 2
	most := joined(unhex("8d"), bytes.Repeat(told, 12), begin(2, 24, uint64(fill)), times(fill, 7))
	expectForm(t, bytesOf(12, fill), most)
	expectFault(t, bytesOf(12, fill+1), api.ErrMany, 0)
	expectFault(t, bytesOf(12, fill+2), api.ErrMany, 0)
	expectFault(t, bytesOf(13, 0), api.ErrMany, 0)
	expectFault(t, bytesOf(200, 0), api.ErrMany, 0)
	expectFault(t, joined(unhex("a1 01"), bytesOf(13, 5)), api.ErrMany, 0)
	// Bytes of 4096 and less that are longer than their form.
	expectForm(t, joined(unhex("5b 00 00 00 00 00 00 0f f7"), times(4087, 1)), joined(unhex("59 0f f7"), times(4087, 1)))
	wide := joined(unhex("9f"), bytes.Repeat(unhex("1b 00 00 00 00 00 00 00 09"), 450), unhex("ff"))
	expectForm(t, wide, joined(unhex("99 01 c2"), times(450, 9)))
}

// P13.1, P13.3: trees by chance, right ones and such with something wrong in them, against the model.
func TestChanceAgainstModel(t *testing.T) {
	c := chance(132)
	found := map[api.Errno]int{}
	for i := range 12000 {
		n := c.tree(1 + c.below(6))
		for range i % 3 {
			c.put(&n, c.wrong())
		}
		if c.below(10) == 0 {
			c.put(&n, textNode(strings.Repeat(c.of("aaa", "\u20ac"), 900+c.below(600))))
		}
		if c.below(10) == 0 {
			c.put(&n, within(c.leaf(), 15+c.below(9)))
		}
		if c.below(10) == 0 {
			c.put(&n, row(c.leaf(), 200+c.below(800)))
		}
		found[expectModel(t, n)]++
	}
	for _, why := range []api.Errno{api.OK, api.ErrMany, api.ErrUtf, api.ErrDeep, api.ErrTwice, api.ErrNum, api.ErrKind} {
		if found[why] < 100 {
			t.Fatal("too few of", why, found)
		}
	}
}

// P13.1: trees by chance that have near 4096 bytes, near 1024 items, or near a depth of 24.
func TestChanceNearBounds(t *testing.T) {
	c := chance(133)
	found := map[api.Errno]int{}
	for range 600 {
		n := arrayNode(c.tree(4), nullNode(), c.tree(4))
		room := mostBytes - len(modelBytes(n)) + 1 - 3
		if room > 300 {
			n.Kids[1] = bytesNode(times(room-2+c.below(5), 0xC4)...)
			found[expectModel(t, n)]++
		}
	}
	if found[api.OK] < 100 || found[api.ErrMany] < 100 {
		t.Fatal("too few on one side:", found)
	}
	clear(found)
	for range 600 {
		n := arrayNode(c.tree(5), arrayNode(), c.tree(5))
		items, _ := modelItems(n)
		if rest := mostNodes - items; rest > 10 {
			n.Kids[1] = row(num(1), rest-4+c.below(8))
			found[expectModel(t, n)]++
		}
		found[expectModel(t, within(c.tree(3), mostDepth-4+c.below(4)))]++
	}
	for _, why := range []api.Errno{api.OK, api.ErrMany, api.ErrDeep, api.ErrKind} {
		if found[why] < 50 {
			t.Fatal("too few of", why, found)
		}
	}
}

// P13.2, P13.4: bytes of trees by chance in other forms have the form of the tree; spoiled ones are told as layer 12 and the model say.
func TestFormByChance(t *testing.T) {
	c := chance(134)
	found := map[api.Errno]int{}
	longer := 0
	for range 8000 {
		n := c.tree(1 + c.below(5))
		b := c.other(n)
		if want := modelBytes(n); modelWhy(n) == api.OK && len(b) <= mostBytes {
			expectForm(t, b, want)
			if len(b) > len(want) {
				longer++
			}
		}
		found[expectFormModel(t, c.spoiled(b))]++
	}
	for _, why := range []api.Errno{api.OK, api.ErrEnd, api.ErrForm, api.ErrUtf, api.ErrMore} {
		if found[why] < 30 {
			t.Fatal("too few of", why, found)
		}
	}
	if found[api.ErrKind] > 0 || longer < 3000 {
		t.Fatal(found, longer)
	}
}

// R1: Form ends at all bytes: short rows, rows of chance and long ones.
func TestFormAnyBytes(t *testing.T) {
	for x := range 256 {
		expectFormModel(t, []byte{byte(x)})
		for y := range 256 {
			expectFormModel(t, []byte{byte(x), byte(y)})
		}
		expectFormModel(t, times(mostBytes, byte(x)))
		expectFormModel(t, times(mostBytes+1, byte(x)))
		expectFormModel(t, joined([]byte{0x9F}, times(1000, byte(x)), []byte{0xFF}))
	}
	c := chance(135)
	for range 20000 {
		expectFormModel(t, c.some(30))
	}
}

// P13.5: trees that differ in little have unlike bytes.
func TestUnlikeBytes(t *testing.T) {
	one, two := num(1), num(2)
	nodes := []api.Node{
		one, two, num(-1), num(-2), num(12), float(1), float(-1), float(2), textNode("1"), textNode("\x01"), bytesNode(1), bytesNode(0, 1), bytesNode(1, 0), boolNode(1), simpleNode(1),
		tagNode(0, one), tagNode(1, one), tagNode(1, two), tagNode(1, tagNode(1, one)), tagNode(5, arrayNode(one)), tagNode(2, one), tagNode(3, one), tagNode(4, one), tagNode(4, arrayNode(one)),
		floatNode(0x7FF8000000000000), floatNode(0x7FF8000000000001), floatNode(0xFFF8000000000000), floatNode(0x7FF0000020000000), float(math.Inf(1)), float(0), float(math.Copysign(0, -1)),
		decNode(false, "1", -1), decNode(true, "1", -1), decNode(false, "1", -2), decNode(false, "2", -1), decNode(false, "11", -1), decNode(false, "1", -11), decNode(false, "1", 800), decNode(true, "1", 801),
		arrayNode(), arrayNode(one), arrayNode(one, two), arrayNode(two, one), arrayNode(arrayNode(one), two), arrayNode(arrayNode(one, two)), arrayNode(one, arrayNode(two)), arrayNode(arrayNode()), arrayNode(arrayNode(), arrayNode()), arrayNode(mapNode()),
		arrayNode(textNode("a"), textNode("b")), arrayNode(textNode("ab")), arrayNode(bytesNode(0x61), textNode("b")), arrayNode(textNode("aab")), arrayNode(textNode("a\x61\x62")),
		mapNode(), mapNode(one, two), mapNode(two, one), mapNode(one, two, two, one), mapNode(two, one, one, two), mapNode(one, one, two, two), mapNode(arrayNode(one), two), mapNode(one, arrayNode(two)), mapNode(one, mapNode(two, one)),
		mapNode(textNode(""), one), mapNode(bytesNode(), one), mapNode(nullNode(), one), mapNode(one, nullNode()), mapNode(boolNode(0), one), mapNode(one, boolNode(0)),
	}
	for _, n := range plain() {
		nodes = append(nodes, n)
	}
	expectUnlike(t, nodes)
	var all []api.Node
	for i, a := range nodes {
		for _, b := range nodes[i%2:] {
			all = append(all, arrayNode(a, b), arrayNode(arrayNode(a), b), mapNode(a, b), tagNode(6, arrayNode(a, b)))
		}
	}
	expectUnlike(t, all)
	c := chance(136)
	all = nil
	for range 10000 {
		all = append(all, c.tree(3))
	}
	expectUnlike(t, all)
}

// expectUnlike holds that bytes are alike only where the trees are the same.
func expectUnlike(t *testing.T, nodes []api.Node) {
	t.Helper()
	first := map[string]api.Node{}
	for _, n := range nodes {
		b, why := csay.Encode(n)
		if why != modelWhy(n) {
			t.Fatalf("Encode(%s) is %v", small(n), why)
		}
		if why != api.OK {
			continue
		}
		if other, found := first[string(b)]; found && !tree.Same(other, n) {
			t.Fatalf("%s and %s are both %s", small(other), small(n), short(b))
		}
		first[string(b)] = n
	}
	if len(first) < len(nodes)/3 {
		t.Fatal("too few:", len(first), len(nodes))
	}
}

// R6: lists that are nil and lists that are empty are the same.
func TestEmptyLists(t *testing.T) {
	none := []api.Node{}
	for b, n := range map[string]api.Node{
		"f6":          {Kind: api.Null, Bytes: []byte{}, Keys: none, Kids: none},
		"f5":          {Kind: api.Bool, N: 1, Kids: none},
		"0c":          {Kind: api.Int, Digits: "12", Keys: none},
		"c4 82 20 01": {Kind: api.Dec, Digits: "1", Exp: -1, Bytes: []byte{}},
		"f9 3c 00":    {Kind: api.Float, N: 0x3FF0000000000000, Kids: none},
		"61 61":       {Kind: api.Text, Text: "a", Bytes: []byte{}, Keys: none, Kids: none},
		"40":          {Kind: api.Bytes, Bytes: []byte{}, Keys: none, Kids: none},
		"80":          {Kind: api.Array, Keys: none, Kids: none, Bytes: []byte{}},
		"81 80":       {Kind: api.Array, Keys: none, Kids: []api.Node{{Kind: api.Array, Kids: none}}},
		"a0":          {Kind: api.Map, Keys: none},
		"a1 a0 a0":    {Kind: api.Map, Keys: []api.Node{{Kind: api.Map, Kids: none}}, Kids: []api.Node{{Kind: api.Map, Keys: none}}},
		"c5 80":       {Kind: api.Tag, N: 5, Keys: none, Kids: []api.Node{{Kind: api.Array, Kids: none}}},
		"f7":          {Kind: api.Simple, N: 23, Bytes: []byte{}},
	} {
		expectBytes(t, n, unhex(b))
	}
	expectBytes(t, api.Node{Kind: api.Bytes}, unhex("40"))
	expectBytes(t, api.Node{Kind: api.Map}, unhex("a0"))
	expectError(t, api.Node{Kind: api.Tag, Kids: none}, api.ErrKind)
	expectError(t, mapNode(arrayNode(), num(1), api.Node{Kind: api.Array, Kids: none}, num(1)), api.ErrTwice)
	expectFault(t, nil, api.ErrEnd, 0)
	expectFault(t, []byte{}, api.ErrEnd, 0)
}

// copied is a tree in memory of its own.
func copied(n api.Node) api.Node {
	n.Bytes, n.Keys, n.Kids = slices.Clone(n.Bytes), slices.Clone(n.Keys), slices.Clone(n.Kids)
	for i := range n.Keys {
		n.Keys[i] = copied(n.Keys[i])
	}
	for i := range n.Kids {
		n.Kids[i] = copied(n.Kids[i])
	}
	return n
}

// R4: trees that are handed in, right and wrong ones, do not turn.
func TestTreesDoNotTurn(t *testing.T) {
	c := chance(137)
	for i := range 2000 {
		n := c.tree(5)
		if i%2 == 0 {
			c.put(&n, c.wrong())
		}
		kept := copied(n)
		csay.Encode(n)
		if !reflect.DeepEqual(n, kept) {
			t.Fatalf("%s has become %s", small(kept), small(n))
		}
	}
}

// R4: nothing is written behind the end of lists that are handed in, where there is room, and nothing is looked at there.
func TestRoomDoesNotTurn(t *testing.T) {
	kids := []api.Node{textNode("a"), textNode("b"), textNode("c")}
	keys := []api.Node{textNode("x"), textNode("y"), textNode("z")}
	run := []byte{1, 2, 3, 4, 5}
	expectBytes(t, api.Node{Kind: api.Map, Keys: keys[:1], Kids: kids[:1]}, unhex("a1 61 78 61 61"))
	expectBytes(t, arrayNode(kids[:2]...), unhex("82 61 61 61 62"))
	expectBytes(t, tagNode(5, api.Node{Kind: api.Bytes, Bytes: run[:2]}), unhex("c5 42 01 02"))
	expectBytes(t, arrayNode(api.Node{Kind: api.Bytes, Bytes: run[1:3]}, num(9)), unhex("82 42 02 03 09"))
	if !bytes.Equal(run, []byte{1, 2, 3, 4, 5}) {
		t.Fatal(run)
	}
	expectBytes(t, arrayNode(slices.Concat(kids, keys)...), unhex("86 61 61 61 62 61 63 61 78 61 79 61 7a"))
	for _, item := range []string{"", "00", "18", "43 01 02 03", "43 01", "5f 41 01", "5f 41 01 ff", "62 c3", "7f 61 61 ff", "82 01 C4 82 20 18 19", "9f 01", "bf 01 02 01", "c2 42 01", "c3 42 01 00", "f8", "61 ff", "1c", "fb 3f f0 00 00 00 00 00 00"} {
		b := unhex(item)
		kept := joined(b, unhex("a9 00 ff ff 00 01 02 03 04"))
		all := slices.Clone(kept)
		got, fault := csay.Form(all[:len(b)])
		want, why := csay.Form(b)
		if !bytes.Equal(got, want) || fault != why || !bytes.Equal(all, kept) {
			t.Fatalf("%s: %s, %v; %s has become %s", item, short(got), fault, short(kept), short(all))
		}
		expectFormModel(t, b)
	}
}

// overwrite writes over bytes, and over the room behind them.
func overwrite(b []byte) {
	whole := b[:cap(b)]
	for i := range whole {
		whole[i] ^= 0xA5
	}
}

// R4: what was answered may be written over, and so may what was handed in, without turning anything else.
func TestAnswersAreTheCallers(t *testing.T) {
	for digits, n := range plain() {
		for _, whole := range []api.Node{n, arrayNode(n, n), mapNode(n, n), tagNode(5, n), bytesNode(unhex(digits)...)} {
			kept := copied(whole)
			one, _ := csay.Encode(whole)
			two, _ := csay.Encode(whole)
			overwrite(one)
			if !bytes.Equal(two, modelBytes(kept)) || !reflect.DeepEqual(whole, kept) {
				t.Fatalf("%s: %s, %s", digits, short(two), small(whole))
			}
			overwrite(whole.Bytes)
			if !bytes.Equal(two, modelBytes(kept)) {
				t.Fatalf("%s has become %s", small(kept), short(two))
			}
		}
		b := unhex(digits)
		one, _ := csay.Form(b)
		two, _ := csay.Form(b)
		overwrite(one)
		if !bytes.Equal(b, unhex(digits)) {
			t.Fatalf("%s has become %s", digits, short(b))
		}
		overwrite(b)
		if !bytes.Equal(two, unhex(digits)) {
			t.Fatalf("%s has become %s", digits, short(two))
		}
		expectBytes(t, plain()[digits], unhex(digits))
	}
	for _, h := range heads() {
		one, _ := csay.Head(3, h.n)
		two, _ := csay.Head(3, h.n)
		overwrite(one)
		if !bytes.Equal(two, modelHead(3, h.n)) {
			t.Fatal(h.n, short(two))
		}
		three, _ := csay.Head(3, h.n)
		if !bytes.Equal(three, two) {
			t.Fatal(h.n, short(three))
		}
	}
}

// R3: the same calls have the same answers, whatever was called between.
func TestSameAnswers(t *testing.T) {
	c := chance(138)
	var nodes []api.Node
	var before []string
	tell := func(n api.Node, b []byte) string {
		encoded, why := csay.Encode(n)
		form, fault := csay.Form(b)
		head, no := csay.Head(len(b)%9-1, uint64(len(b)))
		return fmt.Sprintf("%x %v %x %v %x %v", encoded, why, form, fault, head, no)
	}
	var rows [][]byte
	for i := range 1000 {
		n := c.tree(5)
		b := c.other(n)
		if i%3 == 0 {
			c.put(&n, c.wrong())
			b = c.spoiled(b)
		}
		nodes, rows, before = append(nodes, n), append(rows, b), append(before, tell(n, b))
	}
	for i, n := range slices.Backward(nodes) {
		if again := tell(n, rows[i]); again != before[i] {
			t.Fatalf("%s: %s, then %s", small(n), before[i], again)
		}
	}
}
