package cread_test

import (
	"bytes"
	"fmt"
	"math"
	"math/big"
	"reflect"
	"slices"
	"strings"
	"testing"

	"gantline/api"
	"gantline/cread"
	"gantline/tree"
)

// P12.2: the document's example.
func TestExample(t *testing.T) {
	expectTree(t, unhex("82 01 C4 82 20 18 19"), arrayNode(num(1), decNode(false, "25", -1)))
}

// P12.1: whole numbers at the edges of each width.
func TestWholeNumbers(t *testing.T) {
	for b, want := range map[string]string{
		"00":                         "0",
		"01":                         "1",
		"0a":                         "10",
		"17":                         "23",
		"18 18":                      "24",
		"18 19":                      "25",
		"18 64":                      "100",
		"18 ff":                      "255",
		"19 01 00":                   "256",
		"19 03 e8":                   "1000",
		"19 ff ff":                   "65535",
		"1a 00 01 00 00":             "65536",
		"1a 00 0f 42 40":             "1000000",
		"1a ff ff ff ff":             "4294967295",
		"1b 00 00 00 01 00 00 00 00": "4294967296",
		"1b 00 00 00 e8 d4 a5 10 00": "1000000000000",
		"1b 7f ff ff ff ff ff ff ff": "9223372036854775807",
		"1b 80 00 00 00 00 00 00 00": "9223372036854775808",
		"1b ff ff ff ff ff ff ff ff": "18446744073709551615",
	} {
		expectTree(t, unhex(b), intNode(false, want))
		below := unhex(b)
		below[0] |= 0x20
		n, _ := new(big.Int).SetString(want, 10)
		expectTree(t, below, bigNode(n.Not(n)))
	}
	expectTree(t, unhex("20"), intNode(true, "1"))
	expectTree(t, unhex("29"), intNode(true, "10"))
	expectTree(t, unhex("38 63"), intNode(true, "100"))
	expectTree(t, unhex("39 03 e7"), intNode(true, "1000"))
	expectTree(t, unhex("3b ff ff ff ff ff ff ff ff"), intNode(true, "18446744073709551616"))
	for n := range 24 {
		expectTree(t, []byte{byte(n)}, num(int64(n)))
		expectTree(t, []byte{0x20 + byte(n)}, num(int64(-1-n)))
	}
}

// P12.1: an argument in each width, also where a shorter one would do, of each major type that has one.
func TestEachWidth(t *testing.T) {
	for low := 24; low <= 27; low++ {
		for _, n := range []uint64{0, 1, 2, 23} {
			expectTree(t, begin(0, low, n), num(int64(n)))
			expectTree(t, begin(1, low, n), num(-1-int64(n)))
			expectTree(t, joined(begin(2, low, n), times(int(n), 7)), bytesNode(times(int(n), 7)))
			expectTree(t, joined(begin(3, low, n), times(int(n), 'x')), textNode(strings.Repeat("x", int(n))))
			expectTree(t, joined(begin(4, low, n), times(int(n), 0xF6)), arrayNode(slices.Repeat([]api.Node{nullNode()}, int(n))...))
			pairs, want := begin(5, low, n), mapNode()
			for i := range int64(n) {
				pairs = joined(pairs, intItem(i), unhex("f5"))
				want.Keys, want.Kids = append(want.Keys, num(i)), append(want.Kids, boolNode(true))
			}
			expectTree(t, pairs, want)
		}
		for _, tag := range []uint64{0, 1, 5, 23} {
			expectTree(t, joined(begin(6, low, tag), unhex("00")), tagNode(tag, num(0)))
		}
		expectTree(t, joined(begin(6, low, 2), unhex("41 09")), num(9))
		expectTree(t, joined(begin(6, low, 3), unhex("41 09")), num(-10))
		expectTree(t, joined(begin(6, low, 4), unhex("82 20 03")), decNode(false, "3", -1))
		expectTree(t, joined(begin(6, low, 4), begin(4, low, 2), begin(1, low, 0), begin(0, low, 3)), decNode(false, "3", -1))
		expectTree(t, joined(unhex("5f"), begin(2, low, 2), unhex("01 02"), begin(2, low, 1), unhex("03 ff")), bytesNode([]byte{1, 2, 3}))
		expectTree(t, joined(unhex("7f"), begin(3, low, 2), unhex("61 62"), begin(3, low, 1), unhex("63 ff")), textNode("abc"))
	}
	for n, b := range map[uint64]string{1<<64 - 1: "db ff ff ff ff ff ff ff ff", 1 << 32: "db 00 00 00 01 00 00 00 00", 1<<32 - 1: "da ff ff ff ff", 65535: "d9 ff ff", 55799: "d9 d9 f7", 255: "d8 ff", 24: "d8 18"} {
		expectTree(t, joined(unhex(b), unhex("f6")), tagNode(n, nullNode()))
	}
}

// P12.1: the items of RFC 8949's list of examples.
func TestExamplesOfTheStandard(t *testing.T) {
	for b, want := range map[string]api.Node{
		"c249010000000000000000": intNode(false, "18446744073709551616"),
		"c349010000000000000000": intNode(true, "18446744073709551617"),
		"c48221196ab3":           decNode(false, "27315", -2),
		"f7":                     simpleNode(23),
		"f0":                     simpleNode(16),
		"f8ff":                   simpleNode(255),
		"c074323031332d30332d32315432303a30343a30305a": tagNode(0, textNode("2013-03-21T20:04:00Z")),
		"c11a514b67b0":         tagNode(1, num(1363896240)),
		"c1fb41d452d9ec200000": tagNode(1, float(1363896240.5)),
		"d74401020304":         tagNode(23, bytesNode([]byte{1, 2, 3, 4})),
		"d818456449455446":     tagNode(24, bytesNode([]byte("dIETF"))),
		"d82076687474703a2f2f7777772e6578616d706c652e636f6d": tagNode(32, textNode("http://www.example.com")),
		"40":                         bytesNode(nil),
		"4401020304":                 bytesNode([]byte{1, 2, 3, 4}),
		"60":                         textNode(""),
		"6161":                       textNode("a"),
		"6449455446":                 textNode("IETF"),
		"62225c":                     textNode("\"\\"),
		"62c3bc":                     textNode("\u00fc"),
		"63e6b0b4":                   textNode("\u6c34"),
		"64f0908591":                 textNode("\U00010151"),
		"80":                         arrayNode(),
		"83010203":                   arrayNode(num(1), num(2), num(3)),
		"8301820203820405":           arrayNode(num(1), arrayNode(num(2), num(3)), arrayNode(num(4), num(5))),
		"a0":                         mapNode(),
		"a201020304":                 mapNode(num(1), num(2), num(3), num(4)),
		"a26161016162820203":         mapNode(textNode("a"), num(1), textNode("b"), arrayNode(num(2), num(3))),
		"826161a161626163":           arrayNode(textNode("a"), mapNode(textNode("b"), textNode("c"))),
		"5f42010243030405ff":         bytesNode([]byte{1, 2, 3, 4, 5}),
		"7f657374726561646d696e67ff": textNode("streaming"),
		"9fff":                       arrayNode(),
		"9f018202039f0405ffff":       arrayNode(num(1), arrayNode(num(2), num(3)), arrayNode(num(4), num(5))),
		"9f01820203820405ff":         arrayNode(num(1), arrayNode(num(2), num(3)), arrayNode(num(4), num(5))),
		"83018202039f0405ff":         arrayNode(num(1), arrayNode(num(2), num(3)), arrayNode(num(4), num(5))),
		"83019f0203ff820405":         arrayNode(num(1), arrayNode(num(2), num(3)), arrayNode(num(4), num(5))),
		"bf61610161629f0203ffff":     mapNode(textNode("a"), num(1), textNode("b"), arrayNode(num(2), num(3))),
		"826161bf61626163ff":         arrayNode(textNode("a"), mapNode(textNode("b"), textNode("c"))),
		"bf6346756ef563416d7421ff":   mapNode(textNode("Fun"), boolNode(true), textNode("Amt"), num(-2)),
	} {
		expectTree(t, unhex(b), want)
	}
	row, kids := []byte(nil), []api.Node(nil)
	for n := range int64(25) {
		row, kids = joined(row, intItem(n+1)), append(kids, num(n+1))
	}
	expectTree(t, joined(unhex("9819"), row), arrayNode(kids...))
	expectTree(t, joined(unhex("9f"), row, unhex("ff")), arrayNode(kids...))
}

// P12.1: each simple value: Bools, Null, and Simples of the first byte and the next one.
func TestSimples(t *testing.T) {
	expectTree(t, unhex("f4"), boolNode(false))
	expectTree(t, unhex("f5"), boolNode(true))
	expectTree(t, unhex("f6"), nullNode())
	for n := range 256 {
		if n < 20 || n == 23 {
			expectTree(t, []byte{0xE0 + byte(n)}, simpleNode(uint64(n)))
		}
		if n >= 32 {
			expectTree(t, []byte{0xF8, byte(n)}, simpleNode(uint64(n)))
			continue
		}
		expectWrong(t, []byte{0xF8, byte(n)}, api.ErrForm, 1)
		expectWrong(t, []byte{0x82, 0x00, 0xF8, byte(n)}, api.ErrForm, 3)
		expectWrong(t, []byte{0xBF, 0xF8, byte(n)}, api.ErrForm, 2)
		expectWrong(t, []byte{0xC1, 0xF8, byte(n)}, api.ErrForm, 2)
	}
	expectFault(t, unhex("f8"), api.ErrEnd, 1)
}

// P12.1: Floats of each width, also those that are no number or without bound, widened.
func TestFloats(t *testing.T) {
	for b, want := range map[string]float64{
		"f9 00 00":                   0,
		"f9 80 00":                   math.Copysign(0, -1),
		"f9 3c 00":                   1,
		"f9 3e 00":                   1.5,
		"f9 7b ff":                   65504,
		"f9 00 01":                   5.960464477539063e-8,
		"f9 03 ff":                   6.097555160522461e-5,
		"f9 04 00":                   0.00006103515625,
		"f9 c4 00":                   -4,
		"f9 7c 00":                   math.Inf(1),
		"f9 fc 00":                   math.Inf(-1),
		"fa 00 00 00 00":             0,
		"fa 47 c3 50 00":             100000,
		"fa 7f 7f ff ff":             3.4028234663852886e+38,
		"fa 00 00 00 01":             1.401298464324817e-45,
		"fa 80 7f ff ff":             -1.1754942106924411e-38,
		"fa 7f 80 00 00":             math.Inf(1),
		"fa ff 80 00 00":             math.Inf(-1),
		"fb 00 00 00 00 00 00 00 00": 0,
		"fb 3f f1 99 99 99 99 99 9a": 1.1,
		"fb 7e 37 e4 3c 88 00 75 9c": 1e300,
		"fb c0 10 66 66 66 66 66 66": -4.1,
		"fb 00 00 00 00 00 00 00 01": 5e-324,
		"fb 7f f0 00 00 00 00 00 00": math.Inf(1),
		"fb ff f0 00 00 00 00 00 00": math.Inf(-1),
	} {
		expectTree(t, unhex(b), float(want))
	}
	for b, want := range map[string]uint64{
		"f9 7e 00":                   0x7FF8000000000000,
		"f9 7c 01":                   0x7FF0040000000000,
		"f9 fd 55":                   0xFFF5540000000000,
		"fa 7f c0 00 00":             0x7FF8000000000000,
		"fa 7f 80 00 01":             0x7FF0000020000000,
		"fa ff ff ff ff":             0xFFFFFFFFE0000000,
		"fb 7f f8 00 00 00 00 00 00": 0x7FF8000000000000,
		"fb 7f f0 00 00 00 00 00 01": 0x7FF0000000000001,
		"fb ff ff ff ff ff ff ff ff": 0xFFFFFFFFFFFFFFFF,
	} {
		expectTree(t, unhex(b), floatNode(want))
	}
	for bits := range 1 << 16 {
		n, fault := cread.Decode(begin(7, 25, uint64(bits)))
		if want := modelWiden(uint64(bits), 25); fault.Why != api.OK || n.Kind != api.Float || n.N != want {
			t.Fatalf("%x: %s, %v", bits, toldNode(n), fault)
		}
	}
}

// P12.1: Bytes and Texts in parts: none, one and several, empty ones too, of Texts each a text by itself.
func TestParts(t *testing.T) {
	for b, want := range map[string]api.Node{
		"5f ff":                               bytesNode(nil),
		"5f 40 ff":                            bytesNode(nil),
		"5f 41 01 ff":                         bytesNode([]byte{1}),
		"5f 41 ff ff":                         bytesNode([]byte{255}),
		"5f 42 5f ff 40 41 7f ff":             bytesNode([]byte{0x5F, 255, 0x7F}),
		"5f 40 40 40 ff":                      bytesNode(nil),
		"5f 41 c3 41 a9 ff":                   bytesNode([]byte{0xC3, 0xA9}),
		"7f ff":                               textNode(""),
		"7f 60 ff":                            textNode(""),
		"7f 61 61 ff":                         textNode("a"),
		"7f 61 61 60 62 c3 a9 ff":             textNode("a\u00e9"),
		"7f 78 01 61 79 00 01 62 ff":          textNode("ab"),
		"7f 64 f0 9f 98 80 63 e2 82 ac ff":    textNode("\U0001F600\u20ac"),
		"83 5f ff 7f ff 9f ff":                arrayNode(bytesNode(nil), textNode(""), arrayNode()),
		"9f 5f 41 00 ff 7f 61 62 ff 01 ff":    arrayNode(bytesNode([]byte{0}), textNode("b"), num(1)),
		"bf 5f 41 00 ff 7f 61 62 ff 60 01 ff": mapNode(bytesNode([]byte{0}), textNode("b"), textNode(""), num(1)),
		"c5 7f 61 61 61 62 ff":                tagNode(5, textNode("ab")),
	} {
		expectTree(t, unhex(b), want)
	}
}

// P12.1: Arrays and Maps of none, one and several, with and without an end, and items within items.
func TestArraysAndMaps(t *testing.T) {
	one, two := num(1), num(2)
	for b, want := range map[string]api.Node{
		"80":                               arrayNode(),
		"81 01":                            arrayNode(one),
		"82 01 02":                         arrayNode(one, two),
		"82 02 01":                         arrayNode(two, one),
		"83 01 01 01":                      arrayNode(one, one, one),
		"9f ff":                            arrayNode(),
		"9f 01 ff":                         arrayNode(one),
		"9f 02 01 ff":                      arrayNode(two, one),
		"9f 9f 9f ff ff ff":                arrayNode(arrayNode(arrayNode())),
		"9f 80 a0 9f ff bf ff ff":          arrayNode(arrayNode(), mapNode(), arrayNode(), mapNode()),
		"82 9f 01 ff 9f 02 ff":             arrayNode(arrayNode(one), arrayNode(two)),
		"a0":                               mapNode(),
		"bf ff":                            mapNode(),
		"a1 01 02":                         mapNode(one, two),
		"bf 02 01 ff":                      mapNode(two, one),
		"a2 02 01 01 01":                   mapNode(two, one, one, one),
		"bf 02 01 01 02 ff":                mapNode(two, one, one, two),
		"a1 80 a0":                         mapNode(arrayNode(), mapNode()),
		"bf bf ff 9f ff 9f ff bf ff ff":    mapNode(mapNode(), arrayNode(), arrayNode(), mapNode()),
		"a1 a1 01 02 a1 01 02":             mapNode(mapNode(one, two), mapNode(one, two)),
		"a2 f6 f6 f4 f5":                   mapNode(nullNode(), nullNode(), boolNode(false), boolNode(true)),
		"a2 81 01 02 81 02 02":             mapNode(arrayNode(one), two, arrayNode(two), two),
		"a1 c5 01 c6 02":                   mapNode(tagNode(5, one), tagNode(6, two)),
		"c5 c6 81 c7 a1 01 02":             tagNode(5, tagNode(6, arrayNode(tagNode(7, mapNode(one, two))))),
		"9f 01 82 01 bf 01 9f 02 ff ff ff": arrayNode(one, arrayNode(one, mapNode(one, arrayNode(two)))),
	} {
		expectTree(t, unhex(b), want)
	}
}

// P12.1: tags 2 and 3 of Bytes are Ints: of none, of bytes 0 ahead, of parts.
func TestNaturals(t *testing.T) {
	for b, want := range map[string]string{
		"40":                            "0",
		"41 00":                         "0",
		"43 00 00 00":                   "0",
		"41 01":                         "1",
		"41 ff":                         "255",
		"42 01 00":                      "256",
		"44 00 00 01 00":                "256",
		"48 ff ff ff ff ff ff ff ff":    "18446744073709551615",
		"49 01 00 00 00 00 00 00 00 00": "18446744073709551616",
		"5f ff":                         "0",
		"5f 40 ff":                      "0",
		"5f 41 01 41 00 ff":             "256",
		"5f 41 00 40 42 01 02 ff":       "258",
	} {
		n, _ := new(big.Int).SetString(want, 10)
		expectTree(t, joined(unhex("c2"), unhex(b)), bigNode(n))
		expectTree(t, joined(unhex("c3"), unhex(b)), bigNode(new(big.Int).Not(n)))
		expectTree(t, joined(unhex("9f c3"), unhex(b), unhex("01 ff")), arrayNode(bigNode(new(big.Int).Not(n)), num(1)))
	}
}

// numberOf are the bytes of a number, with some bytes 0 ahead.
func numberOf(ahead int, n *big.Int) []byte { return joined(times(ahead, 0), n.Bytes()) }

// power is 10 to the power of n.
func power(n int64) *big.Int { return new(big.Int).Exp(big.NewInt(10), big.NewInt(n), nil) }

// P12.1: tags 2 and 3 at the bounds of layer 5: 800 digits, 400 bytes; beyond them ErrNum at the tag.
func TestNaturalsBounds(t *testing.T) {
	most := new(big.Int).Sub(power(mostDigits), big.NewInt(1))
	oneLess := new(big.Int).Sub(most, big.NewInt(1))
	digits := strings.Repeat("9", mostDigits)
	expectTree(t, joined(unhex("c2"), bytesItem(most.Bytes())), intNode(false, digits))
	expectWrong(t, joined(unhex("c2"), bytesItem(power(mostDigits).Bytes())), api.ErrNum, 0)
	expectTree(t, joined(unhex("c3"), bytesItem(oneLess.Bytes())), intNode(true, digits))
	expectWrong(t, joined(unhex("c3"), bytesItem(most.Bytes())), api.ErrNum, 0)
	expectWrong(t, joined(unhex("c3"), bytesItem(power(mostDigits).Bytes())), api.ErrNum, 0)
	for _, tag := range []string{"c2", "c3"} {
		want := num(5)
		if tag == "c3" {
			want = num(-6)
		}
		expectTree(t, joined(unhex(tag), bytesItem(numberOf(399, big.NewInt(5)))), want)
		expectWrong(t, joined(unhex(tag), bytesItem(numberOf(400, big.NewInt(5)))), api.ErrNum, 0)
		expectWrong(t, joined(unhex(tag), bytesItem(times(401, 0))), api.ErrNum, 0)
		expectWrong(t, joined(unhex(tag), bytesItem(times(400, 1))), api.ErrNum, 0)
		expectWrong(t, joined(unhex(tag+"5f"), bytesItem(times(200, 0)), bytesItem(times(201, 0)), unhex("ff")), api.ErrNum, 0)
		expectTree(t, joined(unhex(tag+"5f"), bytesItem(times(200, 0)), bytesItem(numberOf(199, big.NewInt(5))), unhex("ff")), want)
		long := joined(unhex(tag), bytesItem(times(401, 0)))
		expectWrong(t, joined(unhex("82 01"), long), api.ErrNum, 2)
		expectWrong(t, joined(unhex("a1 01"), long), api.ErrNum, 2)
		expectWrong(t, joined(unhex("bf"), long), api.ErrNum, 1)
		expectWrong(t, joined(unhex("c5 c6"), long), api.ErrNum, 2)
		expectWrong(t, joined(unhex("c4 82 00"), long), api.ErrNum, 3)
		expectWrong(t, joined(unhex("c4 82"), long), api.ErrNum, 2)
		expectWrong(t, joined(unhex("c2"), long), api.ErrNum, 1)
	}
}

// P12.1: tags 2 and 3 of something else than Bytes, and Bytes under other tags, are Tags.
func TestNaturalsOfElse(t *testing.T) {
	for b, kid := range map[string]api.Node{
		"01":          num(1),
		"20":          num(-1),
		"61 01":       textNode("\x01"),
		"7f ff":       textNode(""),
		"80":          arrayNode(),
		"81 41 01":    arrayNode(bytesNode([]byte{1})),
		"a0":          mapNode(),
		"f4":          boolNode(false),
		"f6":          nullNode(),
		"f7":          simpleNode(23),
		"f9 3c 00":    float(1),
		"c5 41 01":    tagNode(5, bytesNode([]byte{1})),
		"c2 41 01":    num(1),
		"c3 41 01":    num(-2),
		"c4 82 20 01": decNode(false, "1", -1),
		"c4 41 01":    tagNode(4, bytesNode([]byte{1})),
	} {
		expectTree(t, joined(unhex("c2"), unhex(b)), tagNode(2, kid))
		expectTree(t, joined(unhex("c3"), unhex(b)), tagNode(3, kid))
	}
	for _, tag := range []uint64{0, 1, 4, 5, 23, 24, 258, 1 << 32, 1<<64 - 1} {
		expectTree(t, joined(head(6, tag), unhex("41 01")), tagNode(tag, bytesNode([]byte{1})))
	}
}

// P12.1: tag 4 of an Array of two Int: an Int, if the number is whole, else a Dec in its form.
func TestDecimals(t *testing.T) {
	for b, want := range map[string]api.Node{
		"82 20 18 19":                      decNode(false, "25", -1),
		"82 21 19 6a b3":                   decNode(false, "27315", -2),
		"82 20 38 18":                      decNode(true, "25", -1),
		"82 20 01":                         decNode(false, "1", -1),
		"82 21 0a":                         decNode(false, "1", -1),
		"82 21 29":                         decNode(true, "1", -1),
		"82 20 0a":                         num(1),
		"82 20 29":                         num(-1),
		"82 21 19 03 e8":                   num(10),
		"82 00 05":                         num(5),
		"82 00 25":                         num(-6),
		"82 01 05":                         num(50),
		"82 02 0c":                         num(1200),
		"82 00 00":                         num(0),
		"82 05 00":                         num(0),
		"82 25 00":                         num(0),
		"9f 20 18 19 ff":                   decNode(false, "25", -1),
		"82 c3 40 c2 41 19":                decNode(false, "25", -1),
		"82 c3 40 c3 41 18":                decNode(true, "25", -1),
		"82 c2 41 02 c2 42 01 00":          num(25600),
		"9f c3 5f ff c2 5f 41 19 ff ff":    decNode(false, "25", -1),
		"82 c4 82 01 01 03":                num(30000000000),
		"82 20 c4 82 01 01":                num(1),
		"82 20 c4 82 00 07":                decNode(false, "7", -1),
		"98 02 38 00 18 07":                decNode(false, "7", -1),
		"82 00 1b ff ff ff ff ff ff ff ff": intNode(false, "18446744073709551615"),
		"82 20 3b ff ff ff ff ff ff ff ff": decNode(true, "18446744073709551616", -1),
	} {
		expectTree(t, joined(unhex("c4"), unhex(b)), want)
		expectTree(t, joined(unhex("a1 f6 c4"), unhex(b)), mapNode(nullNode(), want))
	}
}

// decimal is an item of tag 4.
func decimal(exp int64, size *big.Int) []byte {
	tag := "c2"
	if size.Sign() < 0 {
		tag, size = "c3", new(big.Int).Not(size)
	}
	return joined(unhex("c4 82"), intItem(exp), unhex(tag), bytesItem(size.Bytes()))
}

// P12.1: tag 4 at the bounds of layer 6: exponents, digits, and what is whole.
func TestDecimalsBounds(t *testing.T) {
	one := big.NewInt(1)
	nines := new(big.Int).Sub(power(mostDigits), one)
	for _, k := range []struct {
		exp  int64
		size *big.Int
		want api.Node
	}{
		{2000, one, decNode(false, "1", 2000)},
		{-2000, one, decNode(false, "1", -2000)},
		{1999, big.NewInt(10), decNode(false, "1", 2000)},
		{-2001, big.NewInt(-10), decNode(true, "1", -2000)},
		{-2799, power(799), decNode(false, "1", -2000)},
		{799, one, intNode(false, "1"+strings.Repeat("0", 799))},
		{798, big.NewInt(-12), intNode(true, "12"+strings.Repeat("0", 798))},
		{800, one, decNode(false, "1", 800)},
		{799, big.NewInt(12), decNode(false, "12", 799)},
		{799, big.NewInt(-10), decNode(true, "1", 800)},
		{0, nines, intNode(false, strings.Repeat("9", mostDigits))},
		{1, nines, decNode(false, strings.Repeat("9", mostDigits), 1)},
		{-1, nines, decNode(false, strings.Repeat("9", mostDigits), -1)},
		{-799, power(799), num(1)},
		{-800, power(799), decNode(false, "1", -1)},
		{1201, power(799), decNode(false, "1", 2000)},
	} {
		expectTree(t, decimal(k.exp, k.size), k.want)
	}
	for _, k := range []struct {
		exp  int64
		size *big.Int
	}{
		{2001, one}, {-2001, one}, {2000, big.NewInt(10)}, {-2001, big.NewInt(-1)}, {1202, power(799)}, {-2800, power(799)}, {-2001, nines}, {2001, nines},
		{1_000_000, one}, {-1_000_000, one}, {1_000_000, big.NewInt(-7)}, {1_000_001, one}, {-1_000_001, one}, {math.MaxInt64, one}, {math.MinInt64, one},
	} {
		b := decimal(k.exp, k.size)
		expectWrong(t, b, api.ErrNum, 0)
		expectWrong(t, joined(unhex("82 01"), b), api.ErrNum, 2)
		expectWrong(t, joined(unhex("bf"), b), api.ErrNum, 1)
		expectWrong(t, joined(unhex("c5"), b), api.ErrNum, 1)
		expectWrong(t, joined(unhex("c4 82 00"), b), api.ErrNum, 3)
	}
}

// P12.1: a tag 4 whose first Int is not from -10^6 to 10^6 is refused, even of 0, of which layer 6 takes all exponents.
func TestFarPowers(t *testing.T) {
	for _, exp := range []int64{0, 5, -5, 2001, -2001, 999_999, 1_000_000, -999_999, -1_000_000} {
		expectTree(t, decimal(exp, big.NewInt(0)), num(0))
		expectTree(t, joined(unhex("c4 82"), intItem(exp), unhex("00")), num(0))
	}
	for _, exp := range []int64{1_000_001, -1_000_001, 1_000_002, 1 << 31, -1 << 31, 1 << 32, -1 << 32, 1<<32 + 5, math.MaxInt64, math.MinInt64, math.MinInt64 + 1} {
		expectWrong(t, decimal(exp, big.NewInt(0)), api.ErrNum, 0)
	}
	for _, exp := range []string{"1b ff ff ff ff ff ff ff ff", "3b ff ff ff ff ff ff ff ff", "1b 80 00 00 00 00 00 00 00", "c2 49 01 00 00 00 00 00 00 00 00", "c3 49 01 00 00 00 00 00 00 00 00", "c2 49 01 00 00 00 00 00 00 00 05", "c2 43 0f 42 41", "c3 43 0f 42 40"} {
		expectWrong(t, joined(unhex("c4 82"), unhex(exp), unhex("00")), api.ErrNum, 0)
		expectWrong(t, joined(unhex("c4 82"), unhex(exp), unhex("01")), api.ErrNum, 0)
	}
	expectTree(t, unhex("c4 82 c2 43 0f 42 40 00"), num(0))
	expectTree(t, unhex("c4 82 c3 43 0f 42 3f 00"), num(0))
}

// P12.1: tag 4 of something else than an Array of two Int, and such Arrays under other tags, are Tags.
func TestDecimalsOfElse(t *testing.T) {
	one, two := num(1), num(2)
	for b, kid := range map[string]api.Node{
		"01":                      one,
		"80":                      arrayNode(),
		"81 01":                   arrayNode(one),
		"83 01 02 01":             arrayNode(one, two, one),
		"9f ff":                   arrayNode(),
		"9f 01 ff":                arrayNode(one),
		"9f 01 02 01 ff":          arrayNode(one, two, one),
		"82 01 f6":                arrayNode(one, nullNode()),
		"82 f6 01":                arrayNode(nullNode(), one),
		"82 01 f9 3c 00":          arrayNode(one, float(1)),
		"82 f9 3c 00 01":          arrayNode(float(1), one),
		"82 01 61 31":             arrayNode(one, textNode("1")),
		"82 61 31 01":             arrayNode(textNode("1"), one),
		"82 01 c5 01":             arrayNode(one, tagNode(5, one)),
		"82 01 41 01":             arrayNode(one, bytesNode([]byte{1})),
		"82 01 c4 82 20 01":       arrayNode(one, decNode(false, "1", -1)),
		"82 c4 82 20 01 01":       arrayNode(decNode(false, "1", -1), one),
		"82 1a 00 0f 42 41 f6":    arrayNode(num(1_000_001), nullNode()),
		"a1 01 02":                mapNode(one, two),
		"a2 01 02 02 02":          mapNode(one, two, two, two),
		"41 01":                   bytesNode([]byte{1}),
		"c5 82 01 02":             tagNode(5, arrayNode(one, two)),
		"83 1a 00 0f 42 41 01 01": arrayNode(num(1_000_001), one, one),
	} {
		expectTree(t, joined(unhex("c4"), unhex(b)), tagNode(4, kid))
	}
	for _, tag := range []uint64{0, 1, 2, 3, 5, 30, 264, 1<<64 - 1} {
		expectTree(t, joined(head(6, tag), unhex("82 01 02")), tagNode(tag, arrayNode(one, two)))
	}
}

// P12.1, P12.2: 4096 bytes are read, 4097 are not, whatever they are, and at whatever place.
func TestBytesBound(t *testing.T) {
	long := times(mostBytes-3, 'a')
	expectTree(t, bytesItem(long), bytesNode(long))
	expectTree(t, textItem(string(long)), textNode(string(long)))
	expectFault(t, bytesItem(times(mostBytes-2, 'a')), api.ErrMany, 0)
	expectFault(t, textItem(strings.Repeat("a", mostBytes-2)), api.ErrMany, 0)
	for _, first := range []string{"00", "ff", "1c", "41 00", "61 ff", "81", "9f", "bf 01 02 01", "c4 82 1a 00 0f 42 41 00"} {
		b := joined(unhex(first), times(mostBytes-len(unhex(first)), 0))
		n, end, fault := cread.Item(b, 0)
		want, wantEnd, wantFault := modelItem(b, 0)
		if !tree.Same(n, want) || end != wantEnd || fault != wantFault {
			t.Fatalf("%s: %s, %d, %v", first, toldNode(n), end, fault)
		}
		expectFault(t, append(b, 0), api.ErrMany, 0)
		expectFault(t, append(b, times(100_000, 0)...), api.ErrMany, 0)
		for _, at := range []int{math.MinInt, -1, 0, 1, mostBytes, mostBytes + 1, math.MaxInt} {
			expectItemFault(t, append(b, 0), at, api.ErrMany, 0)
		}
	}
	expectItem(t, times(mostBytes, 0), mostBytes-1, num(0), mostBytes)
}

// P12.1: Bytes and Texts whose argument is above 4096 are told at their first byte; of 4096 and less bytes are missing.
func TestTextBound(t *testing.T) {
	for _, major := range []int{2, 3} {
		for low := 25; low <= 27; low++ {
			for _, n := range []uint64{4097, 4098, 65535, 1<<31 - 1, 1 << 31, 1<<32 - 1, 1 << 32, 1<<63 - 1, 1 << 63, 1<<64 - 1} {
				if low < 27 && n >= 1<<(8<<(low-24)) {
					continue
				}
				expectWrong(t, begin(major, low, n), api.ErrMany, 0)
				expectWrong(t, joined(begin(major, low, n), unhex("80 61")), api.ErrMany, 0)
				expectWrong(t, joined(unhex("82 00"), begin(major, low, n)), api.ErrMany, 2)
				expectWrong(t, joined(unhex("bf"), begin(major, low, n)), api.ErrMany, 1)
				expectWrong(t, joined(unhex("c2"), begin(major, low, n)), api.ErrMany, 1)
				// Of an argument that is cut off nobody knows how much it is.
				for cut := 1; cut <= 1<<(low-24); cut++ {
					b := begin(major, low, n)
					expectFault(t, b[:len(b)-cut], api.ErrEnd, len(b)-cut)
				}
			}
			for _, n := range []uint64{1, 4095, 4096} {
				expectFault(t, begin(major, low, n), api.ErrEnd, 1+1<<(low-24))
				b := joined(begin(major, low, n), times(100, 'a'))
				if n > 100 {
					expectFault(t, b, api.ErrEnd, len(b))
				}
			}
			full := joined(begin(major, low, 4096), times(mostBytes-1-1<<(low-24), 'a'))
			expectFault(t, full, api.ErrEnd, mostBytes)
		}
	}
	// Other arguments may be as great as they like.
	expectFault(t, begin(4, 27, 1<<64-1), api.ErrEnd, 9)
	expectFault(t, begin(5, 27, 1<<63), api.ErrEnd, 9)
	expectFault(t, joined(begin(5, 27, 1<<63), unhex("01")), api.ErrEnd, 10)
	expectFault(t, joined(begin(5, 27, 1<<63), unhex("01 02")), api.ErrEnd, 11)
	expectFault(t, joined(begin(4, 26, 1<<31), unhex("01 02")), api.ErrEnd, 7)
}

// P12.1: parts whose arguments together are above 4096 are told at the first byte of what they are parts of, ahead of the bytes of the part that is too much.
func TestTextBoundOfParts(t *testing.T) {
	for _, major := range []int{2, 3} {
		open := []byte{byte(major<<5 | 31)}
		part := func(n uint64) []byte { return joined(head(major, n), times(int(n), 'a')) }
		for _, n := range []uint64{4097, 5000, 1 << 31, 1<<63 - 1, 1 << 63, 1<<64 - 1} {
			expectWrong(t, joined(open, head(major, n)), api.ErrMany, 0)
			expectWrong(t, joined(open, head(major, n), unhex("80")), api.ErrMany, 0)
			expectWrong(t, joined(open, part(3), head(major, n)), api.ErrMany, 0)
			expectWrong(t, joined(unhex("82 00"), open, part(0), part(1), head(major, n)), api.ErrMany, 2)
			expectWrong(t, joined(unhex("c2"), open, head(major, n)), api.ErrMany, 1)
		}
		expectWrong(t, joined(open, part(100), head(major, 3997)), api.ErrMany, 0)
		expectFault(t, joined(open, part(100), head(major, 3996)), api.ErrEnd, 1+102+3)
		expectFault(t, joined(open, head(major, 4096)), api.ErrEnd, 4)
		expectWrong(t, joined(open, part(2000), part(2000), head(major, 97)), api.ErrMany, 0)
		expectFault(t, joined(open, part(2000), part(2000), head(major, 96)), api.ErrEnd, 1+2*2003+2)
		expectWrong(t, joined(open, part(1), head(major, 1<<64-1)), api.ErrMany, 0)
		expectWrong(t, joined(open, part(1), begin(major, 27, 4096)), api.ErrMany, 0)
		// What is wrong in the parts ahead of it is told first.
		expectWrong(t, joined(open, unhex("00"), head(major, 5000)), api.ErrForm, 1)
		expectWrong(t, joined(open, part(2), open, head(major, 5000)), api.ErrForm, 4)
		// As many as there is room for.
		whole := joined(open, part(2044), part(2044), unhex("ff"))
		want := strings.Repeat("a", 4088)
		if major == 2 {
			expectTree(t, whole, bytesNode([]byte(want)))
		} else {
			expectTree(t, whole, textNode(want))
		}
	}
	expectWrong(t, joined(unhex("7f 61 ff"), head(3, 5000)), api.ErrUtf, 2)
	expectWrong(t, joined(unhex("7f 61 c3"), head(3, 5000)), api.ErrUtf, 3)
	expectWrong(t, joined(unhex("7f"), head(3, 5000), unhex("ff")), api.ErrMany, 0)
}

// P12.1: the 1024th node is read, the 1025th is not: of items of each kind, in one Array and in several.
func TestNodesBound(t *testing.T) {
	for b, kid := range map[string]api.Node{
		"00": num(0), "20": num(-1), "18 00": num(0), "40": bytesNode(nil), "60": textNode(""), "5f ff": bytesNode(nil), "7f ff": textNode(""), "7f 60 ff": textNode(""), "80": arrayNode(), "9f ff": arrayNode(), "a0": mapNode(), "f6": nullNode(), "f5": boolNode(true), "e0": simpleNode(0), "f8 20": simpleNode(32), "f9 3c 00": float(1),
	} {
		item := unhex(b)
		many := func(n int) []byte { return bytes.Repeat(item, n) }
		kids := func(n int) []api.Node { return slices.Repeat([]api.Node{kid}, n) }
		expectTree(t, joined(head(4, mostNodes-1), many(mostNodes-1)), arrayNode(kids(mostNodes-1)...))
		expectTree(t, joined(unhex("9f"), many(mostNodes-1), unhex("ff")), arrayNode(kids(mostNodes-1)...))
		expectWrong(t, joined(head(4, mostNodes), many(mostNodes)), api.ErrMany, 3+(mostNodes-1)*len(item))
		expectWrong(t, joined(unhex("9f"), many(mostNodes)), api.ErrMany, 1+(mostNodes-1)*len(item))
		// The outer Array, and the two in it, are three.
		half, rest := 500, mostNodes-3-500
		ahead := joined(unhex("82 9f"), many(half), unhex("ff 9f"))
		expectTree(t, joined(ahead, many(rest), unhex("ff")), arrayNode(arrayNode(kids(half)...), arrayNode(kids(rest)...)))
		expectWrong(t, joined(ahead, many(rest+1)), api.ErrMany, len(ahead)+rest*len(item))
	}
	full := joined(unhex("9f"), times(mostNodes-1, 0))
	for _, b := range []string{"00", "3b", "18", "41", "5f", "61", "7f", "78", "81", "9f", "99", "a1", "bf", "bb", "c2", "c4", "d8", "f4", "f8", "f8 00", "f9", "fb 00"} {
		expectWrong(t, joined(full, unhex(b)), api.ErrMany, mostNodes)
	}
	expectFault(t, full, api.ErrEnd, mostNodes)
	expectTree(t, append(full, 255), arrayNode(slices.Repeat([]api.Node{num(0)}, mostNodes-1)...))
}

// P12.1: of a part no node is counted, however many there are.
func TestPartsAreNoNodes(t *testing.T) {
	expectTree(t, joined(unhex("5f"), times(mostBytes-2, 0x40), unhex("ff")), bytesNode(nil))
	expectTree(t, joined(unhex("7f"), times(mostBytes-2, 0x60), unhex("ff")), textNode(""))
	expectTree(t, joined(unhex("9f"), times(mostNodes-2, 0), unhex("7f"), times(1500, 0x60), unhex("ff ff")), arrayNode(append(slices.Repeat([]api.Node{num(0)}, mostNodes-2), textNode(""))...))
}

// P12.1: a Map's Keys and Kids are nodes: the 1025th may be either.
func TestNodesBoundOfMaps(t *testing.T) {
	pairs := func(n int) []byte {
		var b []byte
		for i := range n {
			b = joined(b, begin(0, 25, uint64(i)), unhex("f6"))
		}
		return b
	}
	whole := func(n int) api.Node {
		m := mapNode()
		for i := range n {
			m.Keys, m.Kids = append(m.Keys, num(int64(i))), append(m.Kids, nullNode())
		}
		return m
	}
	// The Map and 511 pairs are 1023: the 512th Key is the 1024th, its Kid the 1025th.
	expectTree(t, joined(head(5, 511), pairs(511)), whole(511))
	expectTree(t, joined(unhex("bf"), pairs(511), unhex("ff")), whole(511))
	expectWrong(t, joined(head(5, 512), pairs(512)), api.ErrMany, 3+511*4+3)
	expectWrong(t, joined(unhex("bf"), pairs(512)), api.ErrMany, 1+511*4+3)
	expectFault(t, joined(unhex("bf"), pairs(512)[:511*4+3]), api.ErrEnd, 1+511*4+3)
	// One more node ahead: the 512th Key is the 1025th.
	expectTree(t, joined(unhex("81 bf"), pairs(511), unhex("ff")), arrayNode(whole(511)))
	expectWrong(t, joined(unhex("81 bf"), pairs(512)), api.ErrMany, 2+511*4)
	expectWrong(t, joined(unhex("81 bf"), pairs(511), unhex("00")), api.ErrMany, 2+511*4)
	expectWrong(t, joined(unhex("82 bf"), pairs(511), unhex("ff 00")), api.ErrMany, 2+511*4+1)
	expectTree(t, joined(unhex("c5 bf"), pairs(511), unhex("ff")), tagNode(5, whole(511)))
	expectWrong(t, joined(unhex("c5 bf"), pairs(512)), api.ErrMany, 2+511*4)
}

// P12.1: tags are nodes, and so are the items in tags 2, 3 and 4, though one node comes of them.
func TestNodesBoundOfTags(t *testing.T) {
	for _, k := range []struct {
		item  string
		nodes int
		at    []int // of each node its first byte
		want  api.Node
	}{
		{"c5 00", 2, []int{0, 1}, tagNode(5, num(0))},
		{"c5 c6 00", 3, []int{0, 1, 2}, tagNode(5, tagNode(6, num(0)))},
		{"c2 40", 2, []int{0, 1}, num(0)},
		{"c3 41 07", 2, []int{0, 1}, num(-8)},
		{"c2 5f 41 01 41 00 ff", 2, []int{0, 1}, num(256)},
		{"c4 82 20 01", 4, []int{0, 1, 2, 3}, decNode(false, "1", -1)},
		{"c4 82 18 01 01", 4, []int{0, 1, 2, 4}, num(10)},
		{"c4 9f 20 01 ff", 4, []int{0, 1, 2, 3}, decNode(false, "1", -1)},
		{"c4 82 c2 40 c3 41 00", 6, []int{0, 1, 2, 3, 4, 5}, num(-1)},
		{"d8 04 82 c3 40 01", 5, []int{0, 2, 3, 4, 5}, decNode(false, "1", -1)},
		{"c2 00", 2, []int{0, 1}, tagNode(2, num(0))},
	} {
		for ahead := mostNodes - k.nodes - 2; ahead < mostNodes; ahead++ {
			b := joined(unhex("9f"), times(ahead, 0), unhex(k.item), unhex("ff"))
			left := mostNodes - 1 - ahead
			if left >= k.nodes {
				expectTree(t, b, arrayNode(append(slices.Repeat([]api.Node{num(0)}, ahead), k.want)...))
				continue
			}
			expectFault(t, b, api.ErrMany, 1+ahead+k.at[left])
		}
	}
	// 341 numbers of tag 4 are four nodes each in bytes, though one each in the tree.
	expectWrong(t, joined(unhex("9f"), bytes.Repeat(unhex("c4 82 20 01"), 256)), api.ErrMany, 1+255*4+3)
	expectTree(t, joined(unhex("9f"), bytes.Repeat(unhex("c4 82 20 01"), 255), unhex("00 00 00 ff")), arrayNode(append(slices.Repeat([]api.Node{decNode(false, "1", -1)}, 255), num(0), num(0), num(0))...))
}

// within are bytes within n beginnings.
func within(n int, first string, inside ...byte) []byte {
	return joined(bytes.Repeat(unhex(first), n), inside)
}

// withinNode is a tree within others.
func withinNode(n int, wrap func(api.Node) api.Node, inside api.Node) api.Node {
	for range n {
		inside = wrap(inside)
	}
	return inside
}

// P12.1: an item in a depth of 24 is read, in 25 not: within Arrays, Maps, as a Key and as a Kid, and tags.
func TestDepthBound(t *testing.T) {
	inArray := func(n api.Node) api.Node { return arrayNode(n) }
	asKid := func(n api.Node) api.Node { return mapNode(num(1), n) }
	asKey := func(n api.Node) api.Node { return mapNode(n, num(1)) }
	inTag := func(n api.Node) api.Node { return tagNode(5, n) }
	for _, k := range []struct {
		first, last string
		wrap        func(api.Node) api.Node
	}{{"81", "", inArray}, {"9f", "ff", inArray}, {"a1 01", "", asKid}, {"bf 01", "ff", asKid}, {"a1", "01", asKey}, {"bf", "01 ff", asKey}, {"c5", "", inTag}} {
		for b, node := range map[string]api.Node{
			"00": num(0), "38 07": num(-8), "41 00": bytesNode([]byte{0}), "5f 41 00 40 ff": bytesNode([]byte{0}), "61 61": textNode("a"), "7f 61 61 60 ff": textNode("a"), "80": arrayNode(), "9f ff": arrayNode(), "a0": mapNode(), "bf ff": mapNode(), "f4": boolNode(false), "f6": nullNode(), "f8 20": simpleNode(32), "fa 3f 80 00 00": float(1),
		} {
			n := mostDepth - 1
			last := bytes.Repeat(unhex(k.last), n)
			expectTree(t, joined(within(n, k.first, unhex(b)...), last), withinNode(n, k.wrap, node))
			expectWrong(t, within(n+1, k.first, unhex(b)...), api.ErrDeep, (n+1)*len(unhex(k.first))-firstKey(k.first, n+1))
		}
	}
	for _, b := range []string{"81 00", "9f 00", "a1 00 00", "bf 00", "c5 00", "c2 40", "c2 00", "c3 41 00", "c4 00"} {
		expectWrong(t, joined(times(mostDepth-1, 0x81), unhex(b)), api.ErrDeep, mostDepth)
		expectWrong(t, joined(times(mostDepth-1, 0xC6), unhex(b)), api.ErrDeep, mostDepth)
	}
	expectFault(t, times(mostBytes, 0x81), api.ErrDeep, mostDepth)
	expectFault(t, times(mostBytes, 0x9F), api.ErrDeep, mostDepth)
	expectFault(t, times(mostBytes, 0xC1), api.ErrDeep, mostDepth)
	expectFault(t, times(mostBytes, 0xA1), api.ErrDeep, mostDepth)
}

// firstKey is how many bytes ahead of the innermost item's the first one in a depth of 25 is: of n Maps with a Key each in front of their Kids it is the innermost one's Key.
func firstKey(first string, n int) int {
	if len(unhex(first)) == 2 && n == mostDepth {
		return 1
	}
	return 0
}

// P12.1: tags 2, 3 and 4 are as deep as what is in them, though one node comes of that.
func TestDepthBoundOfNumbers(t *testing.T) {
	inArray := func(n api.Node) api.Node { return arrayNode(n) }
	for _, k := range []struct {
		b    string
		deep int
		at   int // the first byte of an item that is that deep
		want api.Node
	}{
		{"c2 41 05", 2, 1, num(5)},
		{"c3 41 05", 2, 1, num(-6)},
		{"c2 5f 41 05 ff", 2, 1, num(5)},
		{"c4 82 20 05", 3, 2, decNode(false, "5", -1)},
		{"c4 9f 00 05 ff", 3, 2, num(5)},
		{"c4 82 01 c2 41 05", 4, 4, num(50)},
		{"c4 82 c3 40 05", 4, 3, decNode(false, "5", -1)},
		{"c4 82 00 c4 82 00 05", 5, 5, num(5)},
	} {
		n := mostDepth - k.deep
		expectTree(t, within(n, "81", unhex(k.b)...), withinNode(n, inArray, k.want))
		expectWrong(t, within(n+1, "81", unhex(k.b)...), api.ErrDeep, n+1+k.at)
	}
}

// P12.1: the depth counts what is open alone, not what has ended.
func TestDepthComesBack(t *testing.T) {
	deep := within(mostDepth-2, "81", 0)
	kid := withinNode(mostDepth-2, func(n api.Node) api.Node { return arrayNode(n) }, num(0))
	expectTree(t, joined(unhex("83"), deep, unhex("00"), deep), arrayNode(kid, num(0), kid))
	expectTree(t, joined(unhex("bf"), deep, deep, unhex("00"), deep, unhex("ff")), mapNode(kid, kid, num(0), kid))
	expectTree(t, joined(unhex("82 c5"), deep[1:], deep), arrayNode(tagNode(5, kid.Kids[0]), kid))
	expectWrong(t, joined(unhex("82"), deep, unhex("81"), deep), api.ErrDeep, 1+len(deep)+1+mostDepth-2)
	row := joined(unhex("9f"), bytes.Repeat(unhex("80 a0 c2 40 5f ff"), 200), unhex("ff"))
	if n, fault := cread.Decode(row); fault.Why != api.OK || len(n.Kids) != 800 {
		t.Fatal(len(n.Kids), fault)
	}
}

// P12.1: bytes are cut off at each place: of all that an item has.
func TestCutAtEachPlace(t *testing.T) {
	for _, b := range []string{
		"18 18", "19 01 00", "1a 00 01 00 00", "1b 00 00 00 01 00 00 00 00", "38 18", "39 01 00", "3a 00 01 00 00", "3b 00 00 00 01 00 00 00 00",
		"44 01 02 03 04", "58 02 01 02", "59 00 02 01 02", "5a 00 00 00 02 01 02", "5b 00 00 00 00 00 00 00 02 01 02", "5f 42 01 02 58 01 03 40 ff",
		"64 f0 9f 98 80", "78 02 c3 a9", "79 00 02 c3 a9", "7b 00 00 00 00 00 00 00 02 c3 a9", "7f 63 e2 82 ac 78 01 61 60 ff",
		"83 01 02 03", "98 02 81 01 80", "99 00 01 00", "9f 01 9f 02 ff 03 ff", "a2 01 02 03 04", "b8 01 18 18 19 01 00", "bf 01 02 03 04 ff",
		"c5 01", "d8 20 61 61", "d9 01 00 80", "da 00 00 00 05 f6", "db 00 00 00 00 00 00 00 05 f6", "c2 42 01 00", "c3 5f 41 01 ff", "c4 82 20 18 19", "c4 9f 20 18 19 ff",
		"f8 20", "f9 3c 00", "fa 3f 80 00 00", "fb 3f f0 00 00 00 00 00 00", "82 01 C4 82 20 18 19",
	} {
		want, fault := modelDecode(unhex(b))
		if fault.Why != api.OK {
			t.Fatal(b, fault)
		}
		expectTree(t, unhex(b), want)
	}
	for _, b := range []string{"81", "81 81 81", "82 00", "a1", "a2 01 02", "a1 00", "a2 00 00 01", "c0", "5f 41 00", "7f 61 00", "5f", "7f", "9f", "9f 01 02", "bf", "bf 01", "bf 01 02 03", "81 9f", "9f 80 00", "9f 9f 9f 9f 9f ff ff ff ff", "9f 81 9f 81 9f 9f ff ff ff", "c4 82 01"} {
		expectFault(t, unhex(b), api.ErrEnd, len(unhex(b)))
	}
	expectFault(t, nil, api.ErrEnd, 0)
	expectFault(t, []byte{}, api.ErrEnd, 0)
}

// P12.1: arguments that may not be, of each major type, at each kind of place.
func TestArgumentsThatMayNotBe(t *testing.T) {
	for major := range 8 {
		wrong := []int{28, 29, 30}
		if major < 2 || major > 5 {
			wrong = append(wrong, 31)
		}
		for _, low := range wrong {
			x := []byte{byte(major<<5 | low)}
			for _, ahead := range []string{"", "81", "82 00", "a1", "a1 00", "bf 00", "c5", "c2", "c4", "c4 82 00"} {
				expectWrong(t, joined(unhex(ahead), x), api.ErrForm, len(unhex(ahead)))
			}
			if x[0] != 255 {
				for _, ahead := range []string{"9f", "9f 00", "bf", "bf 00 00", "5f", "5f 40", "7f", "7f 61 61"} {
					expectWrong(t, joined(unhex(ahead), x), api.ErrForm, len(unhex(ahead)))
				}
			}
		}
	}
}

// P12.1: the byte 255 where nothing without an end is open for it, and where one is.
func TestEndWhereItMayNotStand(t *testing.T) {
	for _, ahead := range []string{
		"", "81", "82 00", "83 00 00", "a1", "a1 00", "a2 00 00", "a2 00 00 01", "c5", "c2", "c4", "c4 82", "c4 82 00", "d8 20",
		"bf 00", "bf 00 00 01", "9f 81", "9f 82 00", "9f a1", "9f a1 00", "9f c5", "bf 00 c5", "bf c5", "bf 81", "9f bf 00", "bf 9f ff", "9f 9f ff 81", "bf 5f ff", "81 bf 7f ff", "c5 bf 01", "9f 00 c2",
	} {
		expectWrong(t, joined(unhex(ahead), unhex("ff")), api.ErrForm, len(unhex(ahead)))
	}
	for _, b := range []string{"9f ff", "bf ff", "5f ff", "7f ff", "81 9f ff", "9f 81 9f ff ff", "a1 9f ff bf ff", "bf 00 9f ff ff", "c5 9f ff"} {
		want, _ := modelDecode(unhex(b))
		expectTree(t, unhex(b), want)
		expectFaultOfDecode(t, joined(unhex(b), unhex("ff")), api.ErrMore, len(unhex(b)))
	}
	for _, major := range []int{0, 1, 6} {
		expectWrong(t, []byte{byte(major<<5 | 31)}, api.ErrForm, 0)
	}
}

// P12.1: parts of another major type, and parts without an end, for each first byte.
func TestPartsThatAreNone(t *testing.T) {
	for _, major := range []int{2, 3} {
		open := []byte{byte(major<<5 | 31)}
		for x := range 255 {
			if x/32 == major && x%32 <= 27 {
				continue
			}
			expectWrong(t, joined(open, []byte{byte(x)}), api.ErrForm, 1)
			part := byte(major<<5 | 1)
			expectWrong(t, joined(open, []byte{part, 'a', byte(x)}), api.ErrForm, 3)
			expectWrong(t, joined(unhex("82 00"), open, []byte{part, 'a', part, 'b', byte(x)}), api.ErrForm, 7)
		}
	}
}

// P12.1: a Text that is none is told at its wrong byte, or behind its bytes, where they end too early; so is each part.
func TestTextsThatAreNone(t *testing.T) {
	for b, at := range map[string]int{
		"ff": 0, "80": 0, "61 80": 1, "c3": 1, "c3 28": 1, "61 c3": 2, "c0 80": 0, "c1 bf": 0, "e0 80 80": 1, "e0 a0": 2, "e2 82": 2, "e2 28 a1": 1, "e2 82 28": 2, "ed a0 80": 1, "ed 9f": 2, "ef bf": 2, "f0 80 80 80": 1, "f0 9f 98": 3, "f0 9f": 2, "f0": 1, "f0 9f 28 80": 2, "f4 90 80 80": 1, "f4 8f bf": 3, "f5 80 80 80": 0, "61 62 63 fe 61": 3, "c3 a9 c3": 3, "c3 a9 a9": 2,
	} {
		text := unhex(b)
		n := uint64(len(text))
		for low := 24; low <= 27; low++ {
			item := joined(begin(3, low, n), text)
			start := 1 + 1<<(low-24)
			expectWrong(t, item, api.ErrUtf, start+at)
			expectWrong(t, joined(unhex("82 00"), item), api.ErrUtf, 2+start+at)
			expectWrong(t, joined(unhex("7f"), item), api.ErrUtf, 1+start+at)
			expectWrong(t, joined(unhex("7f 61 61 60"), item, unhex("61 62 ff")), api.ErrUtf, 4+start+at)
			expectWrong(t, joined(unhex("bf"), item), api.ErrUtf, 1+start+at)
			expectWrong(t, joined(unhex("a1 00"), item), api.ErrUtf, 2+start+at)
			expectWrong(t, joined(unhex("c5"), item), api.ErrUtf, 1+start+at)
		}
		// Bytes may be anything.
		expectTree(t, bytesItem(text), bytesNode(text))
		expectTree(t, joined(unhex("5f"), bytesItem(text), unhex("ff")), bytesNode(text))
	}
	// A character may not be cut between two parts.
	expectWrong(t, unhex("7f 61 c3 61 a9 ff"), api.ErrUtf, 3)
	expectWrong(t, unhex("7f 62 61 c3 61 a9 ff"), api.ErrUtf, 4)
	expectWrong(t, unhex("7f 62 c3 a9 61 a9 ff"), api.ErrUtf, 5)
	expectWrong(t, unhex("7f 63 f0 9f 98 61 80 ff"), api.ErrUtf, 5)
}

// P12.1: a wrong byte of a Text stands ahead of bytes that are missing behind it; a character that is begun does not.
func TestTextsWrongAndCut(t *testing.T) {
	for b, at := range map[string]int{"62 ff": 1, "63 61 80": 2, "63 c3 28": 2, "64 61 c3 28": 3, "78 20 61 ed a0": 4, "7f 63 c3 28": 3, "7f 61 61 62 ff": 4, "82 00 63 c3 28": 4, "79 10 00 61 62 80": 5, "bf 63 c3 28": 3} {
		b := unhex(b)
		expectWrong(t, b, api.ErrUtf, at)
		expectWrong(t, joined(b, times(30, 'a')), api.ErrUtf, at)
	}
	for _, b := range []string{"62 c3", "63 61 c3", "64 f0 9f 98", "63 e2", "62 61", "7f 62 c3", "7f 61 61 64 f0 9f", "82 00 62 c3", "78 20 61 ed 9f"} {
		expectFault(t, unhex(b), api.ErrEnd, len(unhex(b)))
	}
}

// P12.1: a Key that the Map has already is told at its first byte: next to the other and apart, written alike and otherwise.
func TestKeysTwice(t *testing.T) {
	for b, at := range map[string]int{
		"a2 01 02 01 02":                                     3,
		"a2 01 02 01 03":                                     3,
		"bf 01 02 01":                                        3,
		"a3 01 02 03 04 01 06":                               5,
		"bf 01 02 03 04 05 06 03":                            7,
		"a2 01 02 18 01 02":                                  3,
		"a2 01 02 1b 00 00 00 00 00 00 00 01 02":             3,
		"a2 01 02 c2 41 01 02":                               3,
		"a2 c2 42 00 01 00 01 02":                            6,
		"a2 01 00 c4 82 00 01 00":                            3,
		"a2 0a 00 c4 82 01 01 00":                            3,
		"a2 20 00 c3 40 00":                                  3,
		"a2 c4 82 20 0f 00 c4 82 21 18 96 00":                6,
		"a2 60 00 60 00":                                     3,
		"a2 61 61 00 61 61 00":                               4,
		"a2 61 61 00 78 01 61 00":                            4,
		"a2 62 61 62 00 7f 61 61 61 62 ff 00":                5,
		"a2 40 00 5f ff 00":                                  3,
		"a2 41 01 00 5f 41 01 ff 00":                         4,
		"a2 80 00 9f ff 00":                                  3,
		"a2 81 01 00 9f 18 01 ff 00":                         4,
		"a2 a0 00 bf ff 00":                                  3,
		"a2 a1 01 02 00 bf 01 c2 41 02 ff 00":                5,
		"a2 c5 01 00 d8 05 01 00":                            4,
		"a2 f6 00 f6 00":                                     3,
		"a2 f4 00 f4 00":                                     3,
		"a2 f7 00 f7 00":                                     3,
		"a2 f8 20 00 f8 20 00":                               4,
		"a2 f9 3c 00 00 f9 3c 00 00":                         5,
		"a2 f9 3c 00 00 fa 3f 80 00 00 00":                   5,
		"a2 fa 3f 80 00 00 00 fb 3f f0 00 00 00 00 00 00 00": 7,
		"a2 f9 7e 00 00 fb 7f f8 00 00 00 00 00 00 00":       5,
		"a2 00 a2 01 02 01 02 00 00":                         5,
		"82 a1 01 02 a2 03 04 03 04":                         7,
		"a2 a2 01 02 01 02 00 00 00":                         4,
		"c5 a2 01 02 01 02":                                  4,
		"c2 a2 01 02 01 02":                                  4,
	} {
		expectWrong(t, unhex(b), api.ErrTwice, at)
		expectWrong(t, joined(unhex("82 00"), unhex(b)), api.ErrTwice, at+2)
		expectWrong(t, joined(unhex("bf 01"), unhex(b)), api.ErrTwice, at+2)
	}
}

// P12.1: Keys that are the same in two Maps, Keys and Kids that are the same, and Keys that look alike are no fault.
func TestKeysOnce(t *testing.T) {
	one, two := num(1), num(2)
	for b, want := range map[string]api.Node{
		"82 a1 01 02 a1 01 02":                   arrayNode(mapNode(one, two), mapNode(one, two)),
		"a1 01 a1 01 a1 01 02":                   mapNode(one, mapNode(one, mapNode(one, two))),
		"a1 a1 01 02 01":                         mapNode(mapNode(one, two), one),
		"a2 01 02 02 02":                         mapNode(one, two, two, two),
		"a2 01 01 02 01":                         mapNode(one, one, two, one),
		"a2 01 02 20 02":                         mapNode(one, two, num(-1), two),
		"a2 01 02 f9 3c 00 02":                   mapNode(one, two, float(1), two),
		"a2 f9 00 00 02 f9 80 00 02":             mapNode(float(0), two, float(math.Copysign(0, -1)), two),
		"a2 f9 7e 00 02 f9 fe 00 02":             mapNode(floatNode(0x7FF8<<48), two, floatNode(0xFFF8<<48), two),
		"a2 61 61 02 41 61 02":                   mapNode(textNode("a"), two, bytesNode([]byte("a")), two),
		"a2 60 02 40 02":                         mapNode(textNode(""), two, bytesNode(nil), two),
		"a2 80 02 a0 02":                         mapNode(arrayNode(), two, mapNode(), two),
		"a4 f4 02 f5 02 f6 02 00 02":             mapNode(boolNode(false), two, boolNode(true), two, nullNode(), two, num(0), two),
		"a2 c5 01 02 c6 01 02":                   mapNode(tagNode(5, one), two, tagNode(6, one), two),
		"a2 81 01 02 82 01 01 02":                mapNode(arrayNode(one), two, arrayNode(one, one), two),
		"a2 a2 01 02 02 01 02 a2 02 01 01 02 02": mapNode(mapNode(one, two, two, one), two, mapNode(two, one, one, two), two),
		"a2 c4 82 20 01 02 c4 82 21 01 02":       mapNode(decNode(false, "1", -1), two, decNode(false, "1", -2), two),
		"a2 c2 01 02 01 02":                      mapNode(tagNode(2, one), two, one, two),
		"a3 f8 20 02 18 20 02 f8 21 02":          mapNode(simpleNode(32), two, num(32), two, simpleNode(33), two),
	} {
		expectTree(t, unhex(b), want)
	}
}

// deepest is the beginning of items whose next one is the 1025th node, in a depth of 25.
func deepest() []byte {
	return joined(unhex("9f 9f"), times(mostNodes-mostDepth, 0), times(mostDepth-2, 0x9F))
}

// P12.1: of several faults at one byte: ErrForm, ErrMany, ErrDeep, in this order.
func TestSeveralAtOneByte(t *testing.T) {
	full := joined(unhex("9f"), times(mostNodes-1, 0))
	deep := times(mostDepth, 0x81)
	for _, x := range []byte{0x1C, 0x1F, 0x3D, 0x3F, 0x5E, 0x7D, 0x9C, 0xBE, 0xDC, 0xDF, 0xFC, 0xFE} {
		expectWrong(t, joined(full, []byte{x}), api.ErrForm, len(full))
		expectWrong(t, joined(deep, []byte{x}), api.ErrForm, len(deep))
		expectWrong(t, joined(deepest(), []byte{x}), api.ErrForm, len(deepest()))
	}
	expectWrong(t, joined(deep, unhex("ff")), api.ErrForm, len(deep))
	expectWrong(t, joined(times(mostDepth, 0xC5), unhex("ff")), api.ErrForm, mostDepth)
	expectWrong(t, joined(unhex("9f"), times(mostNodes-2, 0), unhex("c5 ff")), api.ErrForm, mostNodes)
	for _, b := range []string{"00", "18", "40", "59 10 01", "5b", "7f", "80", "bf", "c2 40", "f8 00", "f8", "f9 00"} {
		expectWrong(t, joined(deepest(), unhex(b)), api.ErrMany, len(deepest()))
	}
	for _, b := range []string{"59 10 01", "5a 00 01 00 00", "5b ff ff ff ff ff ff ff ff", "79 ff ff", "7b 80 00 00 00 00 00 00 00"} {
		expectWrong(t, joined(deep, unhex(b)), api.ErrMany, len(deep))
		expectWrong(t, joined(full, unhex(b)), api.ErrMany, len(full))
		expectWrong(t, joined(deepest(), unhex(b)), api.ErrMany, len(deepest()))
		expectFault(t, joined(deep, unhex(b)[:2]), api.ErrDeep, len(deep))
	}
	for _, b := range []string{"59 10 00", "79 10 00", "5f 59 10 01", "7f 79 10 01", "1b ff ff ff ff ff ff ff ff", "9b ff ff ff ff ff ff ff ff", "bb ff ff ff ff ff ff ff ff", "d9 ff ff"} {
		expectWrong(t, joined(deep, unhex(b)), api.ErrDeep, len(deep))
	}
}

// P12.1: what is told at a first byte stands ahead of what is missing or wrong behind that byte.
func TestFirstByteAheadOfTheNext(t *testing.T) {
	full := joined(unhex("9f"), times(mostNodes-1, 0))
	deep := times(mostDepth, 0x81)
	for _, b := range []string{"18", "19 00", "3b", "58", "59 00", "5b 00", "78", "7a 00", "98", "b8", "bb 00", "d8", "da 00", "f8", "f9 00", "fb", "f8 00", "f8 1f", "61 ff", "62 61", "81 1c", "c5 ff", "c5", "a1 00", "5f 00", "7f ff"} {
		expectFault(t, joined(full, unhex(b)), api.ErrMany, len(full))
		expectFault(t, joined(deep, unhex(b)), api.ErrDeep, len(deep))
		expectFault(t, joined(deepest(), unhex(b)), api.ErrMany, len(deepest()))
	}
}

// P12.1: what is told at an item's first byte of what is in it comes behind what is in it, and ahead of what is behind it.
func TestOfWhatIsInIt(t *testing.T) {
	for b, fault := range map[string]api.Fault{
		// Ahead of ErrNum at the tag.
		"c2 5f 1c":                               {Why: api.ErrForm, At: 2},
		"c3 5a 00 00 10 01":                      {Why: api.ErrMany, At: 1},
		"c4 82 1a 00 0f 42 41":                   {Why: api.ErrEnd, At: 7},
		"c4 82 1a 00 0f 42 41 ff":                {Why: api.ErrForm, At: 7},
		"c4 82 1a 00 0f 42 41 1c":                {Why: api.ErrForm, At: 7},
		"c4 9f 1a 00 0f 42 41 00":                {Why: api.ErrEnd, At: 8},
		"c4 9f 1a 00 0f 42 41 00 1c":             {Why: api.ErrForm, At: 8},
		"c4 82 1a 00 0f 42 41 61 ff":             {Why: api.ErrUtf, At: 8},
		"c4 82 1a 00 0f 42 41 a2 00 00 00":       {Why: api.ErrTwice, At: 10},
		"c4 82 c4 82 1a 00 0f 42 41 00 00":       {Why: api.ErrNum, At: 2},
		"c4 82 00 c4 82 19 08 00 01":             {Why: api.ErrNum, At: 3},
		"c4 82 1a 00 0f 42 41 c4 82 19 08 00 01": {Why: api.ErrNum, At: 7},
		// ErrNum, ahead of what is behind the tag.
		"82 c4 82 1a 00 0f 42 41 00 1c":    {Why: api.ErrNum, At: 1},
		"82 c4 82 1a 00 0f 42 41 00":       {Why: api.ErrNum, At: 1},
		"a2 00 00 c4 82 1a 00 0f 42 41 00": {Why: api.ErrNum, At: 3},
		// Ahead of ErrTwice at the Key.
		"a2 01 02 18":                   {Why: api.ErrEnd, At: 4},
		"a2 81 01 02 81":                {Why: api.ErrEnd, At: 5},
		"a2 81 01 02 9f 01":             {Why: api.ErrEnd, At: 6},
		"a2 81 01 02 9f 01 1c":          {Why: api.ErrForm, At: 6},
		"a2 61 61 02 7f 61 61 00":       {Why: api.ErrForm, At: 7},
		"a2 61 61 02 7f 61 61 61 ff":    {Why: api.ErrUtf, At: 8},
		"a2 81 01 02 81 a2 01 01 01 01": {Why: api.ErrTwice, At: 8},
		// ErrTwice, ahead of the Kid and all behind it.
		"a2 01 02 01":                         {Why: api.ErrTwice, At: 3},
		"a2 01 02 01 1c":                      {Why: api.ErrTwice, At: 3},
		"bf 01 02 01 ff":                      {Why: api.ErrTwice, At: 3},
		"bf 01 02 01 61 ff":                   {Why: api.ErrTwice, At: 3},
		"a2 01 02 01 c4 82 1a 00 0f 42 41 00": {Why: api.ErrTwice, At: 3},
		"a2 01 c4 82 1a 00 0f 42 41 00 01 00": {Why: api.ErrNum, At: 2},
		"82 a2 01 02 01 02 1c":                {Why: api.ErrTwice, At: 4},
		// A Text that ends too early, ahead of what is behind it.
		"82 61 c3 1c": {Why: api.ErrUtf, At: 3},
		"82 61 c3 ff": {Why: api.ErrUtf, At: 3},
		"9f 61 c3 ff": {Why: api.ErrUtf, At: 3},
		"82 61 c3":    {Why: api.ErrUtf, At: 3},
		"7f 61 c3 00": {Why: api.ErrUtf, At: 3},
		"7f 61 c3":    {Why: api.ErrUtf, At: 3},
	} {
		expectFault(t, unhex(b), fault.Why, fault.At)
	}
	// The 1025th node, and an item that is too deep, in a tag, ahead of its ErrNum.
	far := unhex("c4 82 1a 00 0f 42 41 00")
	expectFault(t, joined(unhex("9f"), times(mostNodes-4, 0), far), api.ErrMany, 1+mostNodes-4+7)
	expectFault(t, joined(unhex("9f"), times(mostNodes-5, 0), far), api.ErrNum, 1+mostNodes-5)
	expectFault(t, joined(times(mostDepth-2, 0x81), far), api.ErrDeep, mostDepth-2+2)
	expectFault(t, joined(times(mostDepth-3, 0x81), far), api.ErrNum, mostDepth-3)
	// A Key that is there already, and is the 1025th node, or too deep.
	expectFault(t, joined(unhex("9f"), times(mostNodes-5, 0), unhex("a2 00 00 00")), api.ErrTwice, 1+mostNodes-5+3)
	expectFault(t, joined(unhex("9f"), times(mostNodes-4, 0), unhex("a2 00 00 00")), api.ErrMany, 1+mostNodes-4+3)
}

// P12.1: Item at each place of bytes with several items, and at those that are none.
func TestItemAtEachPlace(t *testing.T) {
	b := unhex("00 38 07 43 01 02 03 7f 61 61 60 ff 82 01 C4 82 20 18 19 bf 01 02 ff c5 f6 f8 20 f9 3c 00")
	for at, want := range map[int]struct {
		n   api.Node
		end int
	}{
		0:  {num(0), 1},
		1:  {num(-8), 3},
		2:  {num(7), 3},
		3:  {bytesNode([]byte{1, 2, 3}), 7},
		7:  {textNode("a"), 12},
		8:  {textNode("a"), 10},
		10: {textNode(""), 11},
		12: {arrayNode(num(1), decNode(false, "25", -1)), 19},
		14: {decNode(false, "25", -1), 19},
		15: {arrayNode(num(-1), num(25)), 19},
		17: {num(25), 19},
		18: {num(0xBF01), 21},
		19: {mapNode(num(1), num(2)), 23},
		23: {tagNode(5, nullNode()), 25},
		25: {simpleNode(32), 27},
		27: {float(1), 30},
		29: {num(0), 30},
	} {
		expectItem(t, b, at, want.n, want.end)
	}
	for at := range b {
		expectModel(t, b, at)
	}
	expectItemFault(t, b, 11, api.ErrForm, 11)
	expectItemFault(t, b, 22, api.ErrForm, 22)
	for _, at := range []int{math.MinInt, -1 << 32, -31, -2, -1, 30, 31, 4096, 4097, 1 << 31, 1<<32 + 3, math.MaxInt} {
		expectItemFault(t, b, at, api.ErrEnd, len(b))
		expectItemFault(t, nil, at, api.ErrEnd, 0)
	}
	expectItemFault(t, nil, 0, api.ErrEnd, 0)
	expectItemFault(t, []byte{}, 0, api.ErrEnd, 0)
	expectItemFault(t, []byte{0}, 1, api.ErrEnd, 1)
}

// P12.2: bytes behind a whole item, whatever they are, are told at the first of them.
func TestBytesTooMany(t *testing.T) {
	for _, b := range []string{"00", "18 18", "40", "41 01", "5f ff", "60", "61 61", "80", "81 00", "9f ff", "a0", "bf ff", "c5 00", "c2 41 01", "c4 82 20 01", "f6", "f8 20", "f9 3c 00"} {
		item := unhex(b)
		for x := range 256 {
			expectFaultOfDecode(t, joined(item, []byte{byte(x)}), api.ErrMore, len(item))
		}
		expectFaultOfDecode(t, joined(item, item), api.ErrMore, len(item))
		expectFaultOfDecode(t, joined(item, times(mostBytes-len(item), 255)), api.ErrMore, len(item))
		expectFaultOfDecode(t, joined(item, times(mostBytes-len(item)+1, 255)), api.ErrMany, 0)
	}
	full := joined(unhex("9f"), times(mostNodes-1, 0), unhex("ff"))
	expectFaultOfDecode(t, append(full, 0), api.ErrMore, len(full))
	// What is wrong in the item is told first.
	expectFault(t, unhex("81 1c 00"), api.ErrForm, 1)
	expectFault(t, unhex("61 ff 00"), api.ErrUtf, 1)
	expectFault(t, unhex("a2 01 02 01 02 00"), api.ErrTwice, 3)
	expectFault(t, unhex("c4 82 1a 00 0f 42 41 00 00"), api.ErrNum, 0)
}

// expectFaultOfDecode is a fault of Decode alone.
func expectFaultOfDecode(t *testing.T, b []byte, why api.Errno, at int) {
	t.Helper()
	got, fault := cread.Decode(b)
	if fault != (api.Fault{Why: why, At: at}) || !reflect.DeepEqual(got, api.Node{}) {
		t.Fatalf("Decode(%s) is %s, %v: not %v at %d", short(b), toldNode(got), fault, why, at)
	}
}

// P12.1, P12.2, P12.3: items by chance are read as the tree that they were made of, and that may be.
func TestChanceItems(t *testing.T) {
	c := chance(121)
	kinds := map[int]int{}
	for range 3000 {
		b, want := c.item(1 + c.below(6))
		expectTree(t, b, want)
		kinds[want.Kind]++
	}
	for kind := api.Null; kind <= api.Simple; kind++ {
		if kinds[kind] < 20 {
			t.Fatal("too few of", kind, kinds)
		}
	}
}

// P12.3: a tree that is decoded may be, at all bounds, and of all bytes that chance makes an item of.
func TestWhatIsReadMayBe(t *testing.T) {
	for _, b := range [][]byte{
		within(mostDepth-1, "81", 0x80), within(mostDepth-1, "c5", 0), joined(unhex("9f"), times(mostNodes-1, 0), unhex("ff")), bytesItem(times(mostBytes-3, 0)), textItem(strings.Repeat("a", mostBytes-3)),
		decimal(2000, big.NewInt(1)), decimal(-2000, big.NewInt(-1)), decimal(800, big.NewInt(1)), decimal(5, big.NewInt(0)), joined(unhex("c2"), bytesItem(times(300, 255))), joined(unhex("c3"), bytesItem(times(300, 255))),
		unhex("c2 00"), unhex("c3 60"), unhex("c4 80"), unhex("f9 7e 00"), unhex("e0"), unhex("f7"), unhex("f8 20"), unhex("f8 ff"), unhex("c4 82 00 20"), unhex("c3 40"), unhex("20"),
	} {
		n, fault := cread.Decode(b)
		if fault.Why != api.OK || tree.Check(n) != api.OK {
			t.Fatalf("Decode(%s) is %v, %v", short(b), fault, tree.Check(n))
		}
	}
	c := chance(122)
	read := 0
	for range 30000 {
		b, _ := c.item(4)
		n, _, fault := cread.Item(c.spoiled(b), 0)
		if fault.Why != api.OK {
			continue
		}
		read++
		if why := tree.Check(n); why != api.OK {
			t.Fatalf("%s of %s may not be: %v", toldNode(n), short(b), why)
		}
	}
	if read < 5000 {
		t.Fatal("too few:", read)
	}
}

// P12.4: behind an item anything may stand: neither its tree nor the place behind it turns.
func TestAnythingBehind(t *testing.T) {
	c := chance(123)
	for range 3000 {
		b, want := c.item(1 + c.below(5))
		for range 3 {
			expectItem(t, joined(b, c.some(20)), 0, want, len(b))
		}
		expectItem(t, joined(b, times(200, 255)), 0, want, len(b))
		more, next := c.item(3)
		expectItem(t, joined(b, more), 0, want, len(b))
		expectItem(t, joined(b, more), len(b), next, len(b)+len(more))
	}
}

// P12.5: no beginning of an item's bytes is one: of each a byte is missing.
func TestNoBeginningIsAnItem(t *testing.T) {
	c := chance(124)
	for range 1500 {
		b, _ := c.item(1 + c.below(6))
		for n := range b {
			expectFault(t, b[:n], api.ErrEnd, n)
		}
	}
	// Also of items that came of bytes by chance.
	for range 20000 {
		b := c.mess()
		_, end, fault := cread.Item(b, 0)
		if fault.Why != api.OK {
			continue
		}
		for n := range end {
			expectFault(t, b[:n], api.ErrEnd, n)
		}
	}
}

// P12.1, P12.2: items, spoiled ones and rows of beginnings by chance, against the model, at some place.
func TestChanceAgainstModel(t *testing.T) {
	c := chance(125)
	found := map[api.Errno]int{}
	for i := range 60000 {
		b := c.mess()
		if i%2 == 0 {
			b, _ = c.item(1 + c.below(5))
			b = c.spoiled(b)
		}
		found[expectModel(t, b, c.below(3))]++
	}
	for _, why := range []api.Errno{api.OK, api.ErrEnd, api.ErrForm, api.ErrUtf, api.ErrMany, api.ErrTwice, api.ErrMore, api.ErrNum} {
		if found[why] < 30 {
			t.Fatal("too few of", why, found)
		}
	}
}

// P12.1: items near the bounds of nodes and depth, by chance, against the model.
func TestChanceNearBounds(t *testing.T) {
	c := chance(126)
	found := map[api.Errno]int{}
	firsts := []string{"81", "82 00", "9f", "9f 01", "a1", "a1 01", "bf", "bf 01", "bf 01 02", "c5", "c2", "c4", "c4 82", "c4 82 00"}
	for range 3000 {
		var b []byte
		for range mostDepth - 3 + c.below(4) {
			b = append(b, unhex(firsts[c.below(len(firsts))])...)
		}
		found[expectModel(t, joined(b, c.mess()), 0)]++
	}
	for range 1000 {
		ahead := joined(unhex("9f"), times(mostNodes-30+c.below(30), 0))
		b, _ := c.array(5)
		found[expectModel(t, joined(ahead, b, unhex("ff")), 0)]++
		found[expectModel(t, joined(ahead, c.mess(), c.mess()), 0)]++
	}
	for _, why := range []api.Errno{api.OK, api.ErrMany, api.ErrDeep, api.ErrForm, api.ErrEnd, api.ErrUtf, api.ErrTwice} {
		if found[why] < 20 {
			t.Fatal("too few of", why, found)
		}
	}
}

// P12.1: all rows of two bytes, and rows of three that begin each kind of item, against the model.
func TestAllShortRows(t *testing.T) {
	for x := range 256 {
		expectModel(t, []byte{byte(x)}, 0)
		for y := range 256 {
			expectModel(t, []byte{byte(x), byte(y)}, 0)
		}
	}
	for _, x := range unhex("19 42 5f 62 7f 82 9f a1 bf c2 c4 c5 d8 f8 f9") {
		for y := range 256 {
			for z := 0; z < 256; z += 1 + z%5 {
				expectModel(t, []byte{x, byte(y), byte(z)}, 0)
			}
		}
	}
}

// R1: every call ends, at all bytes and places: rows of chance against the model, long ones too.
func TestAnyBytes(t *testing.T) {
	c := chance(127)
	for range 20000 {
		b := c.some(40)
		expectModel(t, b, c.below(len(b)+3)-1)
	}
	for range 300 {
		b := make([]byte, mostBytes-3+c.below(6))
		for i := range b {
			b[i] = byte(c.next()) & 0xDF
		}
		expectModel(t, b, c.below(10))
	}
	for x := range 256 {
		expectModel(t, times(mostBytes, byte(x)), 0)
		expectModel(t, times(mostBytes, 0x9F, byte(x))[:mostBytes], 0)
		expectModel(t, times(mostBytes, 0x81, byte(x))[:mostBytes], 1)
		expectModel(t, times(mostBytes+1, byte(x)), 0)
	}
}

// R4: bytes that are handed in, and the room behind them, stay as they are, and are not looked at there.
func TestNothingHandedInIsChanged(t *testing.T) {
	for _, item := range []string{"", "00", "18", "43 01 02 03", "43 01", "5f 41 01", "5f 41 01 ff", "62 c3", "7f 61 61 ff", "82 01 C4 82 20 18 19", "9f 01", "bf 01 02 01", "c2 42 01", "c3 42 01 00", "f8", "61 ff", "1c"} {
		b := unhex(item)
		kept := joined(b, unhex("a9 00 ff ff 00"))
		all := slices.Clone(kept)
		want, fault := modelDecode(b)
		got, why := cread.Decode(all[:len(b)])
		if !tree.Same(got, want) || why != fault {
			t.Fatalf("%s: %s, %v", item, toldNode(got), why)
		}
		cread.Item(all[:len(b)], len(b)/2)
		if !bytes.Equal(all, kept) {
			t.Fatalf("%s has become %s", short(kept), short(all))
		}
	}
}

// overwrite writes over all of a tree, and behind the end of each of its lists.
func overwrite(n *api.Node) {
	for i := range n.Keys {
		overwrite(&n.Keys[i])
	}
	for i := range n.Kids {
		overwrite(&n.Kids[i])
	}
	for i := range n.Bytes {
		n.Bytes[i] ^= 0x55
	}
	_ = append(n.Bytes, 1, 2, 3, 4, 5, 6, 7, 8, 9)
	_ = append(n.Keys, textNode("over"))
	_ = append(n.Kids, textNode("over"))
	*n = textNode("over")
}

// R4: nothing that is handed in is kept, and what was answered may be written over without turning anything else.
func TestNothingHandedInIsKept(t *testing.T) {
	item := unhex("bf 43 01 02 03 5f 41 01 42 02 03 ff 7f 61 61 62 62 63 ff 84 c2 41 05 c4 82 20 05 43 07 07 07 40 c5 44 09 09 09 09 a1 01 80 ff")
	want, fault := modelDecode(item)
	if fault.Why != api.OK {
		t.Fatal(fault)
	}
	b := slices.Clone(item)
	one, _ := cread.Decode(b)
	two, _ := cread.Decode(b)
	three, _, _ := cread.Item(b, 0)
	overwrite(&one)
	if !bytes.Equal(b, item) {
		t.Fatal("what was answered is what was handed in")
	}
	for i := range b {
		b[i] = 0x7A
	}
	if !tree.Same(two, want) || !tree.Same(three, want) {
		t.Fatal(toldNode(two), toldNode(three))
	}
	expectTree(t, item, want)
}

// R4: no two lists of one answer share memory: each part may be written over without turning the others.
func TestPartsAreApart(t *testing.T) {
	item := unhex("88 83 01 02 03 43 01 02 03 5f 41 01 42 02 03 ff a2 01 41 05 41 06 81 07 bf 42 08 09 41 0a ff c5 43 0b 0c 0d 40 9f 01 01 01 01 01 ff")
	want, fault := modelDecode(item)
	if fault.Why != api.OK {
		t.Fatal(fault)
	}
	for i := range want.Kids {
		got, _ := cread.Decode(item)
		overwrite(&got.Kids[i])
		for j, kid := range want.Kids {
			if j != i && !tree.Same(got.Kids[j], kid) {
				t.Fatalf("%d has turned %d: %s", i, j, toldNode(got.Kids[j]))
			}
		}
	}
	got, _ := cread.Decode(item)
	overwrite(&got.Kids[3].Keys[1])
	if !tree.Same(got.Kids[3].Kids[0], want.Kids[3].Kids[0]) || !tree.Same(got.Kids[3].Kids[1], want.Kids[3].Kids[1]) {
		t.Fatal(toldNode(got.Kids[3]))
	}
}

// R3: the same calls have the same answers, whatever was called between.
func TestSameAnswers(t *testing.T) {
	c := chance(128)
	var rows [][]byte
	var told []string
	tell := func(b []byte) string {
		n, end, fault := cread.Item(b, 0)
		whole, more := cread.Decode(b)
		return fmt.Sprint(toldNode(n), end, fault, toldNode(whole), more)
	}
	for range 1000 {
		b, _ := c.item(4)
		if c.below(2) == 0 {
			b = c.spoiled(b)
		}
		rows, told = append(rows, b), append(told, tell(b))
	}
	for i, b := range slices.Backward(rows) {
		if again := tell(b); again != told[i] {
			t.Fatalf("%s: %s; then %s", short(b), told[i], again)
		}
	}
}
