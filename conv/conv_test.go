package conv_test

import (
	"cmp"
	"fmt"
	"math"
	"reflect"
	"runtime"
	"slices"
	"strings"
	"testing"
	"unsafe"

	"gantline/api"
	"gantline/conv"
	"gantline/jread"
	"gantline/jsay"
	"gantline/tree"
)

// P14.1, P14.2: the document's examples.
func TestExamples(t *testing.T) {
	expectTold(t, bytesNode(1, 255), textNode("01ff"), lossBytes())
	expectTold(t, bytesNode(255), textNode("ff"), lossBytes())
	expectTold(t, floatNode(0x3FF0000000000000), num(1), lossOf(api.LossFloat, 0x3FF0000000000000))
	expectTold(t, mapNode(num(1), textNode("a")), arrayNode(arrayNode(num(1), textNode("a"))), lossMap())
}

// plain are nodes without others that JSON can tell.
func plain() []api.Node {
	return []api.Node{
		nullNode(), boolNode(0), boolNode(1), num(0), num(1), num(-1), num(math.MaxInt64), num(math.MinInt64),
		intNode(true, strings.Repeat("9", mostDigits)), decNode(false, "25", -1), decNode(true, "1", -mostExp), decNode(false, "7", mostExp),
		decNode(false, strings.Repeat("3", mostDigits), 1), textNode(""), textNode("a"), textNode("01ff"), textNode("\u20ac\x00"), textNode(strings.Repeat("a", mostText)),
	}
}

// lossy are nodes without others that JSON can not tell, what comes of them, and the loss.
func lossy() []struct {
	n, told api.Node
	loss    api.Loss
} {
	infinity, nan := math.Float64bits(math.Inf(1)), uint64(0x7FF8000000000000)
	return []struct {
		n, told api.Node
		loss    api.Loss
	}{
		{float(7), num(7), lossFloat(7)},
		{float(-0.5), decNode(true, "5", -1), lossFloat(-0.5)},
		{floatNode(infinity), nullNode(), lossOf(api.LossNan, infinity)},
		{floatNode(nan), nullNode(), lossOf(api.LossNan, nan)},
		{bytesNode(), textNode(""), lossBytes()},
		{bytesNode(0x0A), textNode("0a"), lossBytes()},
		{bytesNode(0xDE, 0xAD, 0x00), textNode("dead00"), lossBytes()},
		{simpleNode(0), nullNode(), lossSimple(0)},
		{simpleNode(255), nullNode(), lossSimple(255)},
	}
}

// handLosses are trees of each kind of loss, and one of all kinds, with what comes of them and the losses written out.
func handLosses() []struct {
	n, told api.Node
	losses  []api.Loss
} {
	return []struct {
		n, told api.Node
		losses  []api.Loss
	}{
		{floatNode(0x3FF8000000000000), decNode(false, "15", -1), []api.Loss{{Kind: 1, N: 0x3FF8000000000000}}},
		{floatNode(0x7FF0000000000000), nullNode(), []api.Loss{{Kind: 2, N: 0x7FF0000000000000}}},
		{bytesNode(1, 255), textNode("01ff"), []api.Loss{{Kind: 3}}},
		{tagNode(9, num(1)), num(1), []api.Loss{{Kind: 4, N: 9}}},
		{mapNode(num(1), num(2)), arrayNode(arrayNode(num(1), num(2))), []api.Loss{{Kind: 5}}},
		{simpleNode(0), nullNode(), []api.Loss{{Kind: 6, N: 0}}},
		{
			arrayNode(simpleNode(19), tagNode(7, floatNode(0xC000000000000000)), mapNode(bytesNode(16), floatNode(0xFFF8000000000001)), num(3)),
			arrayNode(nullNode(), num(-2), arrayNode(arrayNode(textNode("10"), nullNode())), num(3)),
			[]api.Loss{
				{Path: []int{0}, Kind: 6, N: 19},
				{Path: []int{1}, Kind: 4, N: 7},
				{Path: []int{1}, Kind: 1, N: 0xC000000000000000},
				{Path: []int{2}, Kind: 5},
				{Path: []int{2, 0, 0}, Kind: 3},
				{Path: []int{2, 0, 1}, Kind: 2, N: 0xFFF8000000000001},
			},
		},
	}
}

// P14.1, R3: no loss is missing, whichever its kind is.
func TestLossesByHand(t *testing.T) {
	for _, c := range handLosses() {
		expectTold(t, c.n, c.told, c.losses...)
	}
}

// P14.1, P14.4: each Kind that JSON can not tell, alone and within Arrays, Maps and Tags, with its Path.
func TestEachLoss(t *testing.T) {
	key, one, two := textNode("k"), num(1), num(2)
	for _, c := range lossy() {
		at := func(path ...int) api.Loss { return lossOf(c.loss.Kind, c.loss.N, path...) }
		expectTold(t, c.n, c.told, at())
		expectTold(t, arrayNode(c.n), arrayNode(c.told), at(0))
		expectTold(t, arrayNode(one, c.n, two), arrayNode(one, c.told, two), at(1))
		expectTold(t, within(c.n, 5), within(c.told, 5), at(0, 0, 0, 0, 0))
		expectTold(t, mapNode(key, c.n), mapNode(key, c.told), at(1))
		expectTold(t, mapNode(textNode("j"), one, key, c.n), mapNode(textNode("j"), one, key, c.told), at(3))
		expectTold(t, tagNode(9, c.n), c.told, lossTag(9), at())
		expectTold(t, mapNode(c.n, one), arrayNode(arrayNode(c.told, one)), lossMap(), at(0, 0))
		expectTold(t, mapNode(two, c.n), arrayNode(arrayNode(two, c.told)), lossMap(), at(0, 1))
		expectTold(t, mapNode(key, one, c.n, c.n), arrayNode(arrayNode(key, one), arrayNode(c.told, c.told)), lossMap(), at(1, 0), at(1, 1))
		expectTold(t, arrayNode(mapNode(key, arrayNode(tagNode(1, c.n)))), arrayNode(mapNode(key, arrayNode(c.told))), lossTag(1, 0, 1, 0), at(0, 1, 0))
		expectModel(t, arrayNode(c.n, mapNode(c.n, tagNode(3, mapNode(c.n, c.n))), c.n))
	}
}

// P14.1, P14.5: each Kind that JSON can tell stays, alone and within Arrays and Maps, without losses; within Tags and Maps of other Keys it stays, too.
func TestEachKindThatStays(t *testing.T) {
	key, one := textNode("k"), num(1)
	for _, n := range plain() {
		for _, whole := range []api.Node{n, arrayNode(n), arrayNode(n, one, n), mapNode(key, n), mapNode(textNode(""), one, key, n), within(mapNode(key, arrayNode(n, n)), 20)} {
			expectTold(t, whole, whole)
		}
		expectTold(t, tagNode(7, n), n, lossTag(7))
		expectTold(t, mapNode(one, n), arrayNode(arrayNode(one, n)), lossMap())
		if n.Kind != api.Text {
			expectTold(t, mapNode(n, key), arrayNode(arrayNode(n, key)), lossMap())
		}
	}
}

// P14.1, P14.2: Floats that are whole numbers and others, of both signs, of 16, 32 and 64 bits, both zeros, the least and the greatest.
func TestFloats(t *testing.T) {
	for _, c := range []struct {
		bits uint64
		told api.Node
	}{
		{0, num(0)},
		{1 << 63, num(0)},
		{0x3FF0000000000000, num(1)},
		{0xBFF0000000000000, num(-1)},
		{0x4024000000000000, num(10)},
		{0xC059000000000000, num(-100)},
		{0x4341C37937E08000, num(10_000_000_000_000_000)},
		{0x3FE0000000000000, decNode(false, "5", -1)},
		{0xBFE0000000000000, decNode(true, "5", -1)},
		{0x40EFFC0000000000, num(65504)},                               // the greatest of 16 bits
		{0x3E70000000000000, decNode(false, "59604644775390625", -24)}, // the least of 16 bits
		{0x47EFFFFFE0000000, intNode(false, "340282346638528859811704183484516925440")},                                // the greatest of 32 bits
		{0x3FB99999A0000000, decNode(false, "100000001490116119384765625", -27)},                                       // of 32 bits
		{0xBFB999999999999A, decNode(true, "1"+strings.Repeat("0", 16)+"55511151231257827021181583404541015625", -55)}, // of 64 bits
		{0x4340000000000001, intNode(false, "9007199254740994")},
		{0x3FF0000000000001, decNode(false, "10000000000000002220446049250313080847263336181640625", -52)},
		{0x432FFFFFFFFFFFFF, decNode(false, "45035996273704955", -1)},
		{0x4330000000000000, num(1 << 52)},
	} {
		expectTold(t, floatNode(c.bits), c.told, lossOf(api.LossFloat, c.bits))
		if want, _ := modelNumber(c.bits); !tree.Same(want, c.told) {
			t.Fatalf("the model's %x is %s", c.bits, small(want))
		}
	}
	for _, x := range []float64{math.MaxFloat64, math.SmallestNonzeroFloat64, 0x1p-1022, 0x1.fffffffffffffp-1022, 0x0.fffffffffffffp-1022, 1e22, 1e23, 1e300, 0.1, 1.0 / 3, 123456.789, 0x1p52 + 0.5, 0x1p53 - 1, 0x1p53, 0x1p63, 0x1p64, 100, 1e15} {
		for _, x := range []float64{x, -x, x / 2, x * 0.3} {
			expectModel(t, float(x))
			expectModel(t, mapNode(float(x), float(-x)))
		}
	}
	top, _, _ := conv.ToJson(float(-math.MaxFloat64))
	if top.Kind != api.Int || !top.Neg || len(top.Digits) != 309 || top.Exp != 0 {
		t.Fatal(small(top))
	}
	least, _, _ := conv.ToJson(float(math.SmallestNonzeroFloat64))
	if least.Kind != api.Dec || len(least.Digits) != 751 || least.Exp != -1074 {
		t.Fatal(small(least))
	}
	c := chance(14)
	for range 300 {
		expectModel(t, floatNode(c.bits()))
	}
}

// noNumbers are bits of no number and of those without bound.
func noNumbers() []uint64 {
	return []uint64{0x7FF0000000000000, 0xFFF0000000000000, 0x7FF8000000000000, 0xFFF8000000000000, 0x7FF0000000000001, 0xFFF0000000000001, 0x7FFFFFFFFFFFFFFF, math.MaxUint64, 0x7FF0040000000000, 0x7FF0000020000000}
}

// P14.1, P14.2: Floats without bound and of no number are Null, and their bits come back, each one.
func TestFloatsOfNoNumber(t *testing.T) {
	for _, bits := range noNumbers() {
		expectTold(t, floatNode(bits), nullNode(), lossOf(api.LossNan, bits))
		expectTold(t, arrayNode(nullNode(), floatNode(bits)), arrayNode(nullNode(), nullNode()), lossOf(api.LossNan, bits, 1))
	}
}

// P14.1, P14.2: Bytes of each value, and of lengths up to the bound.
func TestBytes(t *testing.T) {
	for x := range 256 {
		expectTold(t, bytesNode(byte(x)), textNode(fmt.Sprintf("%02x", x)), lossBytes())
		expectTold(t, bytesNode(byte(x), 0x1F, byte(x)), textNode(fmt.Sprintf("%02x1f%02x", x, x)), lossBytes())
	}
	c := chance(3)
	for _, length := range []int{0, 1, 2, 3, 100, 2047, 2048} {
		b := make([]byte, length)
		for i := range b {
			b[i] = byte(c.next())
		}
		expectTold(t, bytesNode(b...), textNode(fmt.Sprintf("%x", b)), lossBytes())
	}
}

// P14.1: Bytes of 2048 bytes have room in a Text, those of 2049 not, wherever they stand.
func TestBytesBound(t *testing.T) {
	for _, at := range []func(n api.Node) api.Node{
		func(n api.Node) api.Node { return n },
		func(n api.Node) api.Node { return arrayNode(num(1), n) },
		func(n api.Node) api.Node { return tagNode(2, n) },
		func(n api.Node) api.Node { return mapNode(textNode("a"), n) },
		func(n api.Node) api.Node { return mapNode(n, num(1)) },
		func(n api.Node) api.Node { return mapNode(num(1), n) },
		func(n api.Node) api.Node { return within(tagNode(1, mapNode(n, n)), 20) },
	} {
		if why := expectModel(t, at(bytesNode(make([]byte, mostText/2)...))); why != api.OK {
			t.Fatal(why)
		}
		for _, length := range []int{mostText/2 + 1, mostText/2 + 2, mostText - 1, mostText} {
			expectNone(t, at(bytesNode(make([]byte, length)...)), api.ErrMany)
		}
	}
}

// P14.1, P14.2: all Simples that may be, and that no other one comes back.
func TestSimples(t *testing.T) {
	for n := range uint64(300) {
		if n < 20 || n == 23 || n >= 32 && n < 256 {
			expectTold(t, simpleNode(n), nullNode(), lossSimple(n))
			continue
		}
		expectNone(t, simpleNode(n), api.ErrKind)
		expectError(t, nullNode(), api.ErrKind, lossSimple(n))
		expectError(t, arrayNode(num(1), nullNode()), api.ErrKind, lossSimple(n, 1))
	}
	expectError(t, nullNode(), api.ErrKind, lossSimple(math.MaxUint64))
}

// P14.1, P14.2: Tags of all numbers, of Tags, and of Arrays and Maps; each one's Path is where its Kid stands.
func TestTags(t *testing.T) {
	one, key := num(1), textNode("k")
	for _, n := range []uint64{0, 1, 2, 3, 4, 23, 24, 55799, 1 << 32, math.MaxUint64} {
		expectTold(t, tagNode(n, one), one, lossTag(n))
		expectTold(t, tagNode(n, bytesNode(1)), textNode("01"), lossTag(n), lossBytes())
	}
	expectTold(t, tagNode(5, tagNode(6, tagNode(7, one))), one, lossTag(5), lossTag(6), lossTag(7))
	expectTold(t, tagNode(5, tagNode(5, float(1))), one, lossTag(5), lossTag(5), lossFloat(1))
	expectTold(t, arrayNode(key, tagNode(5, tagNode(6, key))), arrayNode(key, key), lossTag(5, 1), lossTag(6, 1))
	expectTold(t, tagNode(5, arrayNode(tagNode(6, one), tagNode(7, arrayNode(tagNode(8, one))))), arrayNode(one, arrayNode(one)), lossTag(5), lossTag(6, 0), lossTag(7, 1), lossTag(8, 1, 0))
	expectTold(t, tagNode(5, mapNode(key, tagNode(6, one))), mapNode(key, one), lossTag(5), lossTag(6, 1))
	expectTold(t, tagNode(5, mapNode(one, tagNode(6, one))), arrayNode(arrayNode(one, one)), lossTag(5), lossMap(), lossTag(6, 0, 1))
	expectTold(t, mapNode(tagNode(6, key), one), arrayNode(arrayNode(key, one)), lossMap(), lossTag(6, 0, 0))
	tags := one
	for range mostDepth - 1 {
		tags = tagNode(8, tags)
	}
	expectTold(t, tags, one, slices.Repeat(losses(lossTag(8)), mostDepth-1)...)
}

// P14.1, P14.2: Maps whose Keys are all Text, Maps with one other Key at any place, Maps of none, and Maps whose Keys are Maps.
func TestMaps(t *testing.T) {
	a, b, one, two, three := textNode("a"), textNode("b"), num(1), num(2), num(3)
	expectTold(t, mapNode(), mapNode())
	expectTold(t, arrayNode(mapNode(), arrayNode()), arrayNode(mapNode(), arrayNode()))
	expectTold(t, mapNode(b, one, a, two), mapNode(b, one, a, two))
	expectTold(t, mapNode(b, bytesNode(1), a, bytesNode(2)), mapNode(b, textNode("01"), a, textNode("02")), lossBytes(1), lossBytes(3))
	expectTold(t, mapNode(a, mapNode(b, mapNode(a, float(1)))), mapNode(a, mapNode(b, mapNode(a, one))), lossFloat(1, 1, 1, 1))
	for i, pairs := range [][]api.Node{{one, one, a, two, b, three}, {a, one, one, two, b, three}, {a, one, b, two, one, three}} {
		want := arrayNode(arrayNode(pairs[0], pairs[1]), arrayNode(pairs[2], pairs[3]), arrayNode(pairs[4], pairs[5]))
		expectTold(t, mapNode(pairs...), want, lossMap())
		expectTold(t, mapNode(a, mapNode(pairs...)), mapNode(a, want), lossMap(1))
		pairs[2*i] = bytesNode(7)
		want.Kids[i].Kids[0] = textNode("07")
		expectTold(t, arrayNode(one, mapNode(pairs...)), arrayNode(one, want), lossMap(1), lossBytes(1, i, 0))
	}
	expectTold(t, mapNode(mapNode(), one), arrayNode(arrayNode(mapNode(), one)), lossMap())
	expectTold(t, mapNode(mapNode(a, one), b), arrayNode(arrayNode(mapNode(a, one), b)), lossMap())
	expectTold(t, mapNode(mapNode(a, bytesNode(1)), b), arrayNode(arrayNode(mapNode(a, textNode("01")), b)), lossMap(), lossBytes(0, 0, 1))
	expectTold(t, mapNode(mapNode(one, two), three), arrayNode(arrayNode(arrayNode(arrayNode(one, two)), three)), lossMap(), lossMap(0, 0))
	expectTold(t, mapNode(mapNode(mapNode(one, a), b), mapNode(two, three)), arrayNode(arrayNode(arrayNode(arrayNode(arrayNode(arrayNode(one, a)), b)), arrayNode(arrayNode(two, three)))),
		lossMap(), lossMap(0, 0), lossMap(0, 0, 0, 0), lossMap(0, 1))
	expectTold(t, mapNode(arrayNode(), one), arrayNode(arrayNode(arrayNode(), one)), lossMap())
	expectTold(t, mapNode(nullNode(), one), arrayNode(arrayNode(nullNode(), one)), lossMap())
}

// P14.1: Keys that are unlike may be told alike: that is no error, and they come back.
func TestKeysThatBecomeAlike(t *testing.T) {
	one := num(1)
	n := mapNode(bytesNode(1), one, textNode("01"), one, num(7), one, float(7), one, tagNode(1, num(7)), one, nullNode(), one, simpleNode(1), one, simpleNode(2), one, floatNode(0x7FF0000000000000), one)
	if why := expectModel(t, n); why != api.OK {
		t.Fatal(why)
	}
}

// P14.1: losses in their order: each node's own ahead of those in it, each Key's ahead of its Kid's, each pair's ahead of the next one's.
func TestOrderOfLosses(t *testing.T) {
	key := textNode("k")
	n := tagNode(1, arrayNode(
		tagNode(2, mapNode(
			tagNode(3, bytesNode(3)), float(4),
			mapNode(key, bytesNode(5)), arrayNode(float(6), simpleNode(7)),
		)),
		float(8),
		mapNode(key, tagNode(9, arrayNode(bytesNode(9))), textNode("l"), float(10)),
	))
	want := arrayNode(
		arrayNode(
			arrayNode(textNode("03"), num(4)),
			arrayNode(mapNode(key, textNode("05")), arrayNode(num(6), nullNode())),
		),
		num(8),
		mapNode(key, arrayNode(textNode("09")), textNode("l"), num(10)),
	)
	expectTold(t, n, want,
		lossTag(1), lossTag(2, 0), lossMap(0),
		lossTag(3, 0, 0, 0), lossBytes(0, 0, 0), lossFloat(4, 0, 0, 1),
		lossBytes(0, 1, 0, 1), lossFloat(6, 0, 1, 1, 0), lossSimple(7, 0, 1, 1, 1),
		lossFloat(8, 1), lossTag(9, 2, 1), lossBytes(2, 1, 0), lossFloat(10, 2, 3))
}

// P14.1: each loss's Path leads, in what comes, to what came of the node.
func TestPathsLead(t *testing.T) {
	c := chance(77)
	for range 1000 {
		n := c.tree(6)
		got, l, why := conv.ToJson(n)
		if why != api.OK {
			continue
		}
		for _, one := range l {
			at, why := tree.At(got, one.Path)
			kinds := map[int][]int{api.LossFloat: {api.Int, api.Dec}, api.LossNan: {api.Null}, api.LossBytes: {api.Text}, api.LossMap: {api.Array}, api.LossSimple: {api.Null}}[one.Kind]
			if why != api.OK || kinds != nil && !slices.Contains(kinds, at.Kind) {
				t.Fatalf("%s: %s leads to %s, %v in %s", small(n), toldLosses(losses(one)), small(at), why, small(got))
			}
		}
	}
}

// P14.1, P14.4: trees of just as many nodes that what comes of them is few, and of one more.
func TestNodesBound(t *testing.T) {
	one := num(1)
	expectTold(t, row(one, mostNodes-1), row(one, mostNodes-1))
	expectNone(t, row(one, mostNodes), api.ErrMany)
	expectTold(t, numbered(341, one), pairsOf(341, one), lossMap())
	expectNone(t, numbered(342, one), api.ErrMany)
	expectNone(t, numbered(511, one), api.ErrMany)
	expectTold(t, tagNode(1, numbered(341, one)), pairsOf(341, one), lossTag(1), lossMap())
	expectNone(t, arrayNode(numbered(341, one)), api.ErrMany)
	many := row(one, mostNodes-4)
	expectNone(t, arrayNode(append(many.Kids, mapNode(one, one))...), api.ErrMany)
	many.Kids[0] = tagNode(1, one)
	if n := arrayNode(append(many.Kids[:mostNodes-5:mostNodes-5], mapNode(one, one))...); tree.Size(n) != mostNodes || expectModel(t, n) != api.OK {
		t.Fatal(tree.Size(n))
	}
	expectTold(t, tagNode(9, row(one, mostNodes-2)), row(one, mostNodes-2), lossTag(9))
	expectNone(t, tagNode(9, row(one, mostNodes-1)), api.ErrMany)
}

// P14.1: trees just so deep that what comes of them is not too deep, and one deeper; by Kids and by Keys.
func TestDepthBound(t *testing.T) {
	one, key := num(1), textNode("k")
	if why := expectModel(t, within(one, mostDepth-1)); why != api.OK {
		t.Fatal(why)
	}
	expectNone(t, within(one, mostDepth), api.ErrDeep)
	for _, pair := range []api.Node{mapNode(one, one), mapNode(bytesNode(1), float(1)), mapNode(mapNode(), one)} {
		if why := expectModel(t, within(pair, mostDepth-3)); why != api.OK {
			t.Fatal(why)
		}
		expectNone(t, within(pair, mostDepth-2), api.ErrDeep)
		if why := expectModel(t, tagNode(1, within(pair, mostDepth-3))); why != api.OK {
			t.Fatal(why)
		}
		expectNone(t, tagNode(1, within(pair, mostDepth-2)), api.ErrDeep)
	}
	expectTold(t, within(mapNode(), mostDepth-1), within(mapNode(), mostDepth-1))
	expectTold(t, within(mapNode(key, one), mostDepth-2), within(mapNode(key, one), mostDepth-2))
	keys, kids := one, one
	for range 11 {
		keys, kids = mapNode(keys, one), mapNode(one, kids)
	}
	for _, maps := range []api.Node{keys, kids} {
		for _, n := range []api.Node{maps, arrayNode(maps), mapNode(key, maps), tagNode(3, arrayNode(maps))} {
			if why := expectModel(t, n); why != api.OK {
				t.Fatal(why)
			}
		}
		for _, n := range []api.Node{mapNode(maps, one), mapNode(one, maps), within(maps, 2), arrayNode(mapNode(key, maps))} {
			expectNone(t, n, api.ErrDeep)
		}
	}
}

// P14.4: a tree of 1024 nodes, of which 1024 come, with a loss of each: in between there are more.
func TestAsManyLossesAsNodes(t *testing.T) {
	n := mapNode()
	for i := range 341 {
		n.Keys = append(n.Keys, tagNode(uint64(i), float(float64(i))))
		n.Kids = append(n.Kids, []api.Node{bytesNode(byte(i)), simpleNode(9), floatNode(noNumbers()[i%10])}[i%3])
	}
	got, l, why := conv.ToJson(n)
	if tree.Size(n) != mostNodes || tree.Size(got) != mostNodes || len(l) != mostNodes || why != api.OK {
		t.Fatal(tree.Size(n), tree.Size(got), len(l), why)
	}
	if why := expectModel(t, n); why != api.OK {
		t.Fatal(why)
	}
}

// P14.2: more nodes and a greater depth than may be, and Keys that are the same, do not matter in between.
func TestInBetween(t *testing.T) {
	one := num(1)
	tags := losses(lossMap())
	want := numbered(341, tagNode(5, one))
	for i := range 341 {
		tags = append(tags, lossTag(5, i, 1))
	}
	expectBack(t, pairsOf(341, one), want, tags...)
	expectError(t, pairsOf(341, one), api.ErrMany, tags[1:]...)
	expectError(t, pairsOf(341, one), api.ErrMany, append(tags, lossTag(5, 0, 1))...)
	expectBack(t, pairsOf(341, one), want, slices.Concat(tags[1:1], losses(), tags)...)
	// The Paths lead through the Map, if that is given back ahead of them.
	for i := range tags[1:] {
		tags[i+1].Path = []int{2*i + 1}
	}
	expectBack(t, pairsOf(341, one), want, append(tags[1:], tags[0])...)

	deep := arrayNode(arrayNode(one, within(one, 21)))
	path := slices.Concat([]int{0, 1}, make([]int, 21))
	expectBack(t, deep, mapNode(one, within(tagNode(4, one), 21)), lossMap(), lossTag(4, path...))
	expectError(t, deep, api.ErrDeep, lossTag(4, path...))
	expectError(t, deep, api.ErrDeep, lossMap(), lossTag(4, path...), lossTag(4, path...))

	twins := arrayNode(arrayNode(one, one), arrayNode(one, num(2)))
	expectError(t, twins, api.ErrTwice, lossMap())
	expectBack(t, twins, mapNode(tagNode(6, one), one, one, num(2)), lossTag(6, 0), lossMap())
	expectBack(t, twins, mapNode(one, one, float(1), num(2)), lossFloat(1, 2), lossMap())
	expectError(t, twins, api.ErrTwice, lossFloat(1, 0), lossFloat(1, 2), lossMap())
	expectError(t, twins, api.ErrTwice, lossTag(6, 1), lossMap())
}

// P14.2: no losses give back nothing.
func TestNoLosses(t *testing.T) {
	for _, n := range append(plain(), arrayNode(), mapNode(), tagNode(1, simpleNode(1)), mapNode(num(1), bytesNode(1)), float(1), row(num(1), mostNodes-1)) {
		expectBack(t, n, n)
	}
}

// P14.2: losses are given back within trees that JSON can not tell, too, through Arrays, Maps and Tags.
func TestPathsThroughAll(t *testing.T) {
	text, key := textNode("ff"), textNode("00")
	for _, c := range []struct {
		n, want api.Node
		path    []int
	}{
		{text, bytesNode(255), nil},
		{tagNode(1, text), tagNode(1, bytesNode(255)), []int{0}},
		{arrayNode(key, text), arrayNode(key, bytesNode(255)), []int{1}},
		{mapNode(key, text), mapNode(key, bytesNode(255)), []int{1}},
		{mapNode(key, text), mapNode(bytesNode(0), text), []int{0}},
		{mapNode(num(1), key, key, text), mapNode(num(1), key, key, bytesNode(255)), []int{3}},
		{mapNode(num(1), key, key, text), mapNode(num(1), key, bytesNode(0), text), []int{2}},
		{mapNode(arrayNode(tagNode(3, text)), key), mapNode(arrayNode(tagNode(3, bytesNode(255))), key), []int{0, 0, 0}},
		{tagNode(3, mapNode(key, arrayNode(float(1), text))), tagNode(3, mapNode(key, arrayNode(float(1), bytesNode(255)))), []int{0, 1, 1}},
	} {
		expectBack(t, c.n, c.want, lossBytes(c.path...))
		wrapped, _ := tree.At(c.n, c.path)
		wrapped, _ = tree.Put(c.n, c.path, tagNode(9, wrapped))
		expectBack(t, c.n, wrapped, lossTag(9, c.path...))
	}
}

// P14.2: ErrPath, where a Path leads nowhere.
func TestPathsThatLeadNowhere(t *testing.T) {
	one, key := num(1), textNode("k")
	two := arrayNode(one, arrayNode(one))
	pairs := mapNode(key, one, textNode("l"), arrayNode())
	for _, c := range []struct {
		n     api.Node
		paths [][]int
	}{
		{one, [][]int{{0}, {1}, {-1}, {0, 0}, {math.MaxInt}, {math.MinInt}}},
		{nullNode(), [][]int{{0}, {-1}}},
		{key, [][]int{{0}}},
		{bytesNode(1, 2), [][]int{{0}, {1}}},
		{arrayNode(), [][]int{{0}, {-1}, {1}}},
		{mapNode(), [][]int{{0}, {1}, {-1}, {2}}},
		{two, [][]int{{2}, {-1}, {0, 0}, {1, 1}, {1, -1}, {1, 0, 0}, {math.MinInt}, {math.MaxInt}, {-2}, {1, math.MinInt}}},
		{pairs, [][]int{{4}, {5}, {-1}, {-2}, {0, 0}, {3, 0}, {3, -1}, {math.MaxInt}, {math.MaxInt - 1}, {math.MinInt}, {math.MinInt + 1}}},
		{tagNode(1, one), [][]int{{1}, {2}, {-1}, {0, 0}}},
		{two, [][]int{make([]int, 1_000_000)}},
	} {
		for _, path := range c.paths {
			for kind := range 8 {
				expectError(t, c.n, api.ErrPath, lossOf(kind, 1, path...))
				// What is given back ahead of it, behind it in the list, does not matter.
				expectError(t, arrayNode(c.n, textNode("00")), api.ErrPath, lossOf(kind, 1, append([]int{0}, path...)...), lossBytes(1))
			}
		}
	}
}

// P14.2: a Path that leads only to what a loss behind it in the list gives back leads there; one that leads only to what a loss ahead of it gives back leads nowhere.
func TestPathsIntoWhatIsGivenBack(t *testing.T) {
	one, a := num(1), textNode("aa")
	expectBack(t, one, tagNode(5, float(1)), lossFloat(1, 0), lossTag(5))
	expectError(t, one, api.ErrPath, lossTag(5), lossFloat(1, 0))
	expectBack(t, one, tagNode(5, float(1)), lossTag(5), lossFloat(1))
	expectError(t, one, api.ErrArg, lossFloat(1), lossTag(5))
	expectBack(t, one, tagNode(5, tagNode(6, one)), lossTag(6, 0), lossTag(5))
	expectBack(t, one, tagNode(5, tagNode(6, one)), lossTag(5), lossTag(6))
	expectBack(t, one, tagNode(6, tagNode(5, one)), lossTag(6), lossTag(5))
	expectError(t, one, api.ErrPath, lossTag(5), lossTag(6, 0))
	expectBack(t, arrayNode(one), arrayNode(tagNode(5, tagNode(6, float(1)))), lossFloat(1, 0, 0, 0), lossTag(6, 0, 0), lossTag(5, 0))

	pairs := arrayNode(arrayNode(a, one), arrayNode(one, a))
	expectBack(t, pairs, mapNode(a, one, one, bytesNode(0xAA)), lossMap(), lossBytes(1, 1))
	expectBack(t, pairs, mapNode(a, one, one, bytesNode(0xAA)), lossBytes(3), lossMap())
	expectBack(t, pairs, mapNode(bytesNode(0xAA), one, one, a), lossBytes(0), lossMap())
	expectError(t, pairs, api.ErrPath, lossBytes(0, 0), lossMap())
	expectError(t, pairs, api.ErrPath, lossMap(), lossBytes(3))
	expectError(t, pairs, api.ErrPath, lossBytes(4), lossMap())
	// (1) leads to a pair of the Array, but to a Kid of the Map.
	expectError(t, pairs, api.ErrArg, lossMap(), lossBytes(1))
	expectBack(t, pairs, mapNode(a, float(1), one, a), lossFloat(1, 1), lossMap())
	// What was given back has nothing in it, if it is no Tag and no Map.
	for _, c := range lossy() {
		expectError(t, c.told, api.ErrPath, lossTag(1, 0), c.loss)
	}
}

// P14.2: a loss of a Float asks for just the number of its bits.
func TestWrongFloats(t *testing.T) {
	for _, c := range []struct {
		x  float64
		is []api.Node
		no []api.Node
	}{
		{1, []api.Node{num(1)}, []api.Node{num(-1), num(2), num(10), num(0), decNode(false, "1", -1), nullNode(), boolNode(1), textNode("1"), float(1), bytesNode(1), arrayNode(num(1)), tagNode(1, num(1)), simpleNode(1), mapNode()}},
		{-10, []api.Node{num(-10)}, []api.Node{num(10), num(-1), num(-100), decNode(true, "1", -1)}},
		{0.5, []api.Node{decNode(false, "5", -1)}, []api.Node{decNode(true, "5", -1), decNode(false, "5", -2), decNode(false, "51", -2), num(5), num(0)}},
		{0, []api.Node{num(0)}, []api.Node{num(1), nullNode(), decNode(false, "1", -mostExp)}},
		{math.Copysign(0, -1), []api.Node{num(0)}, []api.Node{num(-1), nullNode()}},
		{1e300, nil, []api.Node{decNode(false, "1", mostExp), intNode(false, "1"+strings.Repeat("0", 300)), num(1)}},
		{0.1, nil, []api.Node{decNode(false, "1", -1)}},
	} {
		exact, _ := modelNumber(math.Float64bits(c.x))
		for _, n := range append(c.is, exact) {
			expectBack(t, n, float(c.x), lossFloat(c.x))
			expectBack(t, arrayNode(n, n), arrayNode(n, float(c.x)), lossFloat(c.x, 1))
		}
		for _, n := range c.no {
			expectError(t, n, api.ErrArg, lossFloat(c.x))
			expectError(t, mapNode(textNode("k"), n), api.ErrArg, lossFloat(c.x, 1))
		}
	}
	for _, bits := range noNumbers() {
		for _, n := range append(plain(), floatNode(bits)) {
			expectError(t, n, api.ErrArg, lossOf(api.LossFloat, bits))
		}
	}
	expectError(t, num(1), api.ErrArg, lossFloat(1+0x1p-52))
	expectError(t, num(1), api.ErrArg, lossOf(api.LossFloat, 1))
	expectError(t, row(num(1), mostNodes-1), api.ErrArg, lossFloat(1))
}

// P14.2: a loss of no number asks for a Null, and for bits of no number.
func TestWrongNans(t *testing.T) {
	for _, bits := range noNumbers() {
		expectBack(t, nullNode(), floatNode(bits), lossOf(api.LossNan, bits))
		for _, n := range []api.Node{num(0), boolNode(0), textNode(""), textNode("null"), decNode(false, "1", -1), floatNode(bits), bytesNode(), arrayNode(), mapNode(), arrayNode(nullNode()), simpleNode(22 + 1), tagNode(0, nullNode())} {
			expectError(t, n, api.ErrArg, lossOf(api.LossNan, bits))
			expectError(t, arrayNode(nullNode(), n), api.ErrArg, lossOf(api.LossNan, bits, 1))
		}
	}
	for _, x := range []float64{0, math.Copysign(0, -1), 1, -1, math.MaxFloat64, -math.MaxFloat64, 5e-324} {
		expectError(t, nullNode(), api.ErrArg, lossOf(api.LossNan, math.Float64bits(x)))
		expectError(t, num(int64(math.Min(x, 1))), api.ErrArg, lossOf(api.LossNan, math.Float64bits(x)))
	}
}

// P14.2: a loss of Bytes asks for a Text of two digits for each byte, 0 to 9 and a to f; whatever its N.
func TestWrongBytes(t *testing.T) {
	expectBack(t, textNode("0123456789abcdef"), bytesNode(0x01, 0x23, 0x45, 0x67, 0x89, 0xAB, 0xCD, 0xEF), lossBytes())
	expectBack(t, textNode("fedcba9876543210"), bytesNode(0xFE, 0xDC, 0xBA, 0x98, 0x76, 0x54, 0x32, 0x10), lossBytes())
	expectBack(t, textNode(""), bytesNode(), lossBytes())
	expectBack(t, textNode("0f"), bytesNode(15), lossOf(api.LossBytes, 7))
	expectBack(t, textNode(strings.Repeat("5a", mostText/2)), bytesNode(slices.Repeat([]byte{0x5A}, mostText/2)...), lossBytes())
	for _, s := range []string{
		"0", "f", "000", "0f0f0", "0F", "F0", "aA", "Aa", "AF", "0g", "g0", "0`", "`0", "0/", "/0", "0:", ":0", "0@", "0x", "0x00", " 0", "0 ", "00 ", " 00", "00\n", "-1", "+1", "\x00\x00", "0\x00", "a\u00e9", "\u00e9", "\u00e90", "\u0661", "\uff10", "null",
		"00000000000G", strings.Repeat("0", mostText-1), strings.Repeat("0", mostText-1) + "G",
	} {
		expectError(t, textNode(s), api.ErrArg, lossBytes())
		expectError(t, arrayNode(textNode("00"), textNode(s)), api.ErrArg, lossBytes(1))
	}
	for x := range 128 {
		for _, s := range []string{"0" + string(rune(x)), string(rune(x)) + "0"} {
			expectModelBack(t, textNode(s), losses(lossBytes()))
		}
	}
	for _, n := range []api.Node{nullNode(), num(10), num(0), boolNode(1), decNode(false, "1", -1), float(1), bytesNode(), bytesNode(1), arrayNode(), arrayNode(textNode("00")), mapNode(), mapNode(textNode("00"), textNode("00")), tagNode(2, textNode("00")), simpleNode(0)} {
		expectError(t, n, api.ErrArg, lossBytes())
	}
}

// P14.2: a loss of a Simple asks for a Null.
func TestWrongSimples(t *testing.T) {
	expectBack(t, arrayNode(nullNode(), nullNode()), arrayNode(simpleNode(16), nullNode()), lossSimple(16, 0))
	for _, n := range []api.Node{num(0), boolNode(0), textNode(""), decNode(false, "1", -1), float(1), floatNode(noNumbers()[0]), bytesNode(), arrayNode(), arrayNode(nullNode()), mapNode(), simpleNode(16), tagNode(0, nullNode())} {
		expectError(t, n, api.ErrArg, lossSimple(16))
		expectError(t, arrayNode(n), api.ErrArg, lossSimple(16, 0))
		// An N that may not be is told behind a node that is wrong.
		expectError(t, n, api.ErrArg, lossSimple(24))
	}
}

// P14.2: a loss of a Map asks for an Array of Arrays of two; whatever its N, and whatever the Keys are.
func TestWrongMaps(t *testing.T) {
	one, a := num(1), textNode("a")
	pair := arrayNode(one, a)
	expectBack(t, arrayNode(), mapNode(), lossMap())
	expectBack(t, arrayNode(pair), mapNode(one, a), lossMap())
	expectBack(t, arrayNode(pair), mapNode(one, a), lossOf(api.LossMap, 5))
	expectBack(t, arrayNode(arrayNode(a, one)), mapNode(a, one), lossMap())
	expectBack(t, arrayNode(pair, arrayNode(a, one), arrayNode(pair, pair)), mapNode(one, a, a, one, pair, pair), lossMap())
	expectBack(t, arrayNode(arrayNode(bytesNode(1), float(1)), arrayNode(mapNode(), simpleNode(1))), mapNode(bytesNode(1), float(1), mapNode(), simpleNode(1)), lossMap())
	expectBack(t, arrayNode(arrayNode(pair, pair), arrayNode(one, a)), mapNode(arrayNode(one, a), pair, one, a), lossMap())
	for _, wrong := range []api.Node{one, a, nullNode(), arrayNode(), arrayNode(one), arrayNode(one, a, one), arrayNode(one, a, one, a), mapNode(), mapNode(one, a), mapNode(one, a, a, one), tagNode(1, pair), bytesNode(1, 2), textNode("ab")} {
		for _, n := range []api.Node{arrayNode(wrong), arrayNode(pair, wrong), arrayNode(wrong, pair), arrayNode(pair, wrong, pair)} {
			expectError(t, n, api.ErrArg, lossMap())
			expectError(t, tagNode(1, n), api.ErrArg, lossMap(0))
		}
	}
	for _, n := range []api.Node{nullNode(), one, a, boolNode(1), float(1), bytesNode(), textNode(""), mapNode(), mapNode(one, a), mapNode(pair, pair), tagNode(1, arrayNode()), tagNode(1, pair), simpleNode(1), pair} {
		expectError(t, n, api.ErrArg, lossMap())
	}
	expectError(t, arrayNode(pair, pair), api.ErrTwice, lossMap())
	expectError(t, arrayNode(pair, arrayNode(one, one)), api.ErrTwice, lossMap())
	expectError(t, arrayNode(a, arrayNode(pair, pair)), api.ErrTwice, lossMap(1))
	// A pair that a loss has made a Tag or a Map of is none any more.
	expectError(t, arrayNode(pair), api.ErrArg, lossMap(), lossTag(1, 0))
	expectError(t, arrayNode(arrayNode(pair, arrayNode(a, one))), api.ErrArg, lossMap(), lossMap(0))
	expectBack(t, arrayNode(arrayNode(arrayNode(pair), one)), mapNode(mapNode(one, a), one), lossMap(), lossMap(0, 0))
}

// P14.2: kinds of losses that are none.
func TestWrongKinds(t *testing.T) {
	for _, kind := range []int{0, 7, 8, -1, -3, 255, 259, math.MaxInt, math.MinInt} {
		for _, n := range append(plain(), arrayNode(), mapNode(), bytesNode(1), simpleNode(1), tagNode(1, num(1)), float(1)) {
			expectError(t, n, api.ErrArg, lossOf(kind, 0))
			expectError(t, n, api.ErrArg, lossOf(kind, math.MaxUint64))
			expectError(t, arrayNode(n), api.ErrArg, lossOf(kind, 1, 0))
		}
	}
}

// P14.2: 2048 losses are gone through, up to the first one; 2049 are refused.
func TestLossesBound(t *testing.T) {
	one := num(1)
	tags := slices.Repeat(losses(lossTag(1)), mostLosses)
	expectError(t, one, api.ErrMany, tags...)
	for _, count := range []int{mostLosses - 1, mostLosses} {
		l := slices.Clone(tags[:count])
		l[0] = lossOf(9, 0)
		expectError(t, one, api.ErrArg, l...)
		l[0] = lossTag(1, 1)
		expectError(t, one, api.ErrPath, l...)
		// As deep as all the Tags are, and one deeper.
		l[0] = lossOf(9, 0, make([]int, count-1)...)
		expectError(t, one, api.ErrArg, l...)
		l[0] = lossOf(9, 0, make([]int, count)...)
		expectError(t, one, api.ErrPath, l...)
	}
	for _, count := range []int{mostLosses + 1, mostLosses + 2, 100_000} {
		expectError(t, one, api.ErrMany, slices.Repeat(losses(lossOf(9, 0)), count)...)
		expectError(t, one, api.ErrMany, slices.Repeat(losses(lossTag(1, 7)), count)...)
	}
	// Of what comes: 1023 Tags are as many nodes as may be, but too deep.
	expectError(t, one, api.ErrDeep, tags[:mostNodes-1]...)
	expectError(t, one, api.ErrMany, tags[:mostNodes]...)
	expectError(t, one, api.ErrDeep, tags[:mostDepth]...)
	many := one
	for range mostDepth - 1 {
		many = tagNode(1, many)
	}
	expectBack(t, one, many, tags[:mostDepth-1]...)
}

// P14.2: what comes may have 1024 nodes and a depth of 24, no more.
func TestBoundsOfWhatIsGivenBack(t *testing.T) {
	one := num(1)
	full := row(one, mostNodes-2)
	want := row(one, mostNodes-2)
	want.Kids[5] = tagNode(3, one)
	expectBack(t, full, want, lossTag(3, 5))
	expectError(t, full, api.ErrMany, lossTag(3, 5), lossTag(3, 6))
	expectError(t, row(one, mostNodes-1), api.ErrMany, lossTag(3, 5))
	expectBack(t, row(nullNode(), mostNodes-1), arrayNode(append([]api.Node{simpleNode(3)}, row(nullNode(), mostNodes-2).Kids...)...), lossSimple(3, 0))
	expectBack(t, within(one, mostDepth-2), within(tagNode(3, one), mostDepth-2), lossTag(3, make([]int, mostDepth-2)...))
	expectBack(t, within(one, mostDepth-2), tagNode(3, within(one, mostDepth-2)), lossTag(3))
	expectError(t, within(one, mostDepth-1), api.ErrDeep, lossTag(3))
	expectError(t, within(one, mostDepth-1), api.ErrDeep, lossTag(3, make([]int, mostDepth-1)...))
}

// mayNotBe are nodes that layer 8's Check refuses, by what it says of them.
func mayNotBe() map[api.Errno][]api.Node {
	stray := float(1)
	stray.Text = "a"
	return map[api.Errno][]api.Node{
		api.ErrMany:  {row(nullNode(), mostNodes), textNode(strings.Repeat("a", mostText+1)), bytesNode(make([]byte, mostText+1)...)},
		api.ErrDeep:  {within(num(1), mostDepth), tagNode(1, within(num(1), mostDepth-1)), mapNode(within(num(1), mostDepth-1), num(1))},
		api.ErrUtf:   {textNode("\xFF"), textNode("a\xC3"), textNode("\xED\xA0\x80")},
		api.ErrNum:   {intNode(false, ""), intNode(false, "01"), intNode(true, "0"), intNode(false, strings.Repeat("9", mostDigits+1)), decNode(false, "1", 0), decNode(false, "10", -1), decNode(false, "1", -mostExp-1)},
		api.ErrKind:  {{Kind: 11}, {Kind: -1}, {Kind: math.MaxInt}, boolNode(2), simpleNode(20), simpleNode(24), simpleNode(256), stray, {Kind: api.Null, N: 1}, {Kind: api.Tag}, {Kind: api.Tag, Kids: make([]api.Node, 2)}, mapNode(num(1)), {Kind: api.Map, Kids: make([]api.Node, 1)}, {Kind: api.Array, Keys: make([]api.Node, 1)}, {Kind: api.Bytes, Bytes: []byte{1}, Kids: make([]api.Node, 1)}},
		api.ErrTwice: {mapNode(num(1), num(1), num(1), num(2)), mapNode(textNode("a"), num(1), num(2), num(2), textNode("a"), num(3)), mapNode(bytesNode(), num(1), api.Node{Kind: api.Bytes, Bytes: []byte{}}, num(2))},
	}
}

// P14.1, P14.2: each error of layer 8's Check of what is handed in, at the root, as a Kid, as a Key, and in a Tag.
func TestErrorsOfCheck(t *testing.T) {
	for why, nodes := range mayNotBe() {
		for _, n := range nodes {
			for _, whole := range []api.Node{n, arrayNode(num(1), n), mapNode(textNode("k"), n), mapNode(n, num(1)), mapNode(num(1), n), tagNode(5, n), arrayNode(tagNode(5, mapNode(bytesNode(1), n)))} {
				expectNone(t, whole, why)
				expectError(t, whole, why)
				expectError(t, whole, why, lossTag(1))
			}
		}
	}
}

// P14.1, P14.2, R1: of several errors the one that is named first.
func TestErrorNamedFirst(t *testing.T) {
	one := num(1)
	long := bytesNode(make([]byte, mostText)...)
	// What is handed in is wrong, and what would come, too.
	expectNone(t, arrayNode(long, textNode("\xFF")), api.ErrUtf)
	expectNone(t, arrayNode(numbered(400, one), textNode("\xFF")), api.ErrUtf)
	expectNone(t, arrayNode(within(mapNode(one, one), mostDepth-3), boolNode(2)), api.ErrKind)
	expectNone(t, arrayNode(numbered(400, one), mapNode(one, one, one, one)), api.ErrTwice)
	// Several errors of what comes.
	expectNone(t, arrayNode(numbered(400, one), within(mapNode(one, one), mostDepth-3)), api.ErrMany)
	expectNone(t, arrayNode(long, within(mapNode(one, one), mostDepth-3)), api.ErrDeep)
	expectNone(t, arrayNode(within(mapNode(one, one), mostDepth-3), long), api.ErrDeep)

	many := slices.Repeat(losses(lossOf(9, 0, 5)), mostLosses+1)
	for why, nodes := range mayNotBe() {
		for _, n := range nodes {
			expectError(t, n, why, many...)
			expectError(t, n, why, lossOf(9, 0, 5))
			expectError(t, n, why, lossOf(9, 0))
		}
	}
	expectError(t, one, api.ErrMany, many...)
	expectError(t, one, api.ErrPath, many[:mostLosses]...)
	expectError(t, one, api.ErrPath, lossOf(9, 0, 5))
	expectError(t, nullNode(), api.ErrPath, lossSimple(24, 0))
	// Of several losses the one that is gone through first: the last.
	two := arrayNode(one, nullNode())
	expectError(t, two, api.ErrArg, lossTag(1, 2), lossBytes(0))
	expectError(t, two, api.ErrPath, lossBytes(0), lossTag(1, 2))
	expectError(t, two, api.ErrArg, lossTag(1, 2), lossBytes(0), lossTag(3, 0))
	// The error of what comes is behind all of them.
	expectError(t, two, api.ErrKind, lossTag(1), lossSimple(24, 1))
	expectError(t, two, api.ErrPath, lossTag(1, 2), lossSimple(24, 1))
	expectError(t, two, api.ErrArg, lossBytes(0), lossSimple(24, 1))
	expectError(t, row(one, mostNodes-1), api.ErrArg, lossBytes(0), lossTag(1))
	expectError(t, row(one, mostNodes-1), api.ErrPath, lossBytes(1), lossTag(1))
	expectError(t, within(nullNode(), mostDepth-1), api.ErrDeep, lossSimple(24, make([]int, mostDepth)...), lossTag(1))
	expectError(t, row(nullNode(), mostNodes-1), api.ErrMany, lossSimple(24, 0), lossTag(1, 1))
	twins := arrayNode(arrayNode(one, nullNode()), arrayNode(one, one))
	expectError(t, twins, api.ErrKind, lossMap(), lossSimple(24, 0, 1))
	expectError(t, twins, api.ErrTwice, lossMap(), lossSimple(23, 0, 1))
}

// R1: trees without an end, and such that share so many parts that they are not few, are refused, and every call ends.
func TestTreesWithoutEnd(t *testing.T) {
	list := make([]api.Node, 1)
	list[0] = arrayNode(list...)
	list[0].Kids = list
	keys := make([]api.Node, 1)
	keys[0] = api.Node{Kind: api.Map, Keys: keys, Kids: list}
	tags := make([]api.Node, 1)
	tags[0] = api.Node{Kind: api.Tag, Kids: tags}
	shared := bytesNode(1)
	for range 60 {
		shared = arrayNode(shared, shared)
	}
	for _, n := range []api.Node{list[0], keys[0], tags[0], shared, mapNode(shared, shared), tagNode(1, list[0])} {
		expectNone(t, n, api.ErrMany)
		expectError(t, n, api.ErrMany)
		expectError(t, n, api.ErrMany, lossTag(1), lossBytes(0, 0, 0))
	}
}

// R1: what takes longest ends soon: Floats of as many digits as can be, great Bytes that are all the same memory, long Paths.
func TestMuchToDo(t *testing.T) {
	least := float(-0x0.fffffffffffffp-1022)
	if why := expectModel(t, row(least, mostNodes-1)); why != api.OK {
		t.Fatal(why)
	}
	if why := expectModel(t, row(bytesNode(make([]byte, mostText/2)...), mostNodes-1)); why != api.OK {
		t.Fatal(why)
	}
	expectNone(t, row(bytesNode(make([]byte, mostText)...), mostNodes-1), api.ErrMany)
	path := make([]int, 3_000_000)
	expectError(t, num(1), api.ErrPath, append(losses(lossTag(1, path...)), slices.Repeat(losses(lossTag(1)), mostLosses-1)...)...)
	// Each Tag is put within the one ahead of it.
	var l []api.Loss
	for i := range mostLosses {
		l = append(l, lossTag(1, path[:mostLosses-1-i]...))
	}
	expectError(t, num(1), api.ErrMany, l...)
	expectError(t, num(1), api.ErrDeep, l[mostLosses-mostDepth:]...)
}

// R1: any Path, Kind and N: as the model says.
func TestAnyLoss(t *testing.T) {
	one := num(1)
	nodes := []api.Node{nullNode(), one, textNode("00"), arrayNode(), arrayNode(one, nullNode()), mapNode(textNode("0"), one), mapNode(one, textNode("ab")), arrayNode(arrayNode(one, nullNode()), arrayNode(textNode("cd"), one)), tagNode(1, nullNode()), bytesNode(1), float(1), simpleNode(1)}
	numbers := []uint64{0, 1, 16, 20, 24, 1 << 63, math.Float64bits(1), math.Float64bits(-1), noNumbers()[0], math.MaxUint64}
	paths := [][]int{nil, {}, {0}, {1}, {2}, {3}, {-1}, {-2}, {0, 0}, {0, 1}, {1, 0}, {1, 1}, {-1, 0}, {0, -1}, {math.MaxInt}, {math.MinInt}}
	seen := map[api.Errno]int{}
	for _, n := range nodes {
		for _, bits := range numbers {
			for _, path := range paths {
				for _, kind := range []int{math.MinInt, -1, 0, 1, 2, 3, 4, 5, 6, 7, math.MaxInt} {
					seen[expectModelBack(t, n, losses(lossOf(kind, bits, path...)))]++
				}
			}
		}
	}
	for _, why := range []api.Errno{api.OK, api.ErrArg, api.ErrPath, api.ErrKind} {
		if seen[why] < 30 {
			t.Fatal(seen)
		}
	}
}

// P14.1, P14.3, P14.4, P14.5: trees by chance, right ones and such with something wrong in them, against the model.
func TestChanceAgainstModel(t *testing.T) {
	c := chance(1414)
	seen := map[api.Errno]int{}
	for i := range 6000 {
		n := c.tree(2 + c.below(6))
		if i%4 == 0 {
			c.put(&n, c.wrong())
		}
		seen[expectModel(t, n)]++
	}
	for _, why := range []api.Errno{api.OK, api.ErrMany, api.ErrUtf, api.ErrNum, api.ErrKind, api.ErrTwice} {
		if seen[why] < 20 {
			t.Fatal(seen)
		}
	}
}

// P14.1, P14.4: trees by chance that have near 1024 nodes, before or behind, or are near a depth of 24.
func TestChanceNearBounds(t *testing.T) {
	c := chance(99)
	seen := map[api.Errno]int{}
	for i := range 400 {
		n := c.broad(900 + c.below(120))
		if i%2 == 0 {
			n = c.deep(17 + c.below(8))
		}
		seen[expectModel(t, n)]++
	}
	for _, why := range []api.Errno{api.OK, api.ErrMany, api.ErrDeep} {
		if seen[why] < 20 {
			t.Fatal(seen)
		}
	}
}

// P14.2: losses by chance, and those of trees with something turned in them, against the model.
func TestRestoreByChance(t *testing.T) {
	c := chance(2026)
	seen := map[api.Errno]int{}
	for i := range 12000 {
		n, l := c.tree(2+c.below(5)), losses()
		if i%4 == 0 {
			n = c.pairs()
		}
		if told, lost, why := conv.ToJson(n); why == api.OK && i%3 > 0 {
			n, l = told, lost
		}
		for range c.below(4) {
			l = c.turned(n, l)
		}
		seen[expectModelBack(t, n, l)]++
	}
	for _, why := range []api.Errno{api.OK, api.ErrArg, api.ErrPath, api.ErrKind, api.ErrTwice} {
		if seen[why] < 10 {
			t.Fatal(seen)
		}
	}
}

// P14.3: what comes is printed as a JSON text, and is read of it again.
func TestToldInJson(t *testing.T) {
	c := chance(31)
	for range 1500 {
		n := c.tree(5)
		told, l, why := conv.ToJson(n)
		if why != api.OK {
			continue
		}
		text, why := jsay.Print(told)
		if why == api.ErrMany {
			continue
		}
		read, fault := jread.Parse(text)
		if why != api.OK || fault != (api.Fault{}) || !tree.Same(read, told) {
			t.Fatalf("%s is printed %s, %v, and read %s, %v", small(told), text, why, small(read), fault)
		}
		expectBack(t, read, n, l...)
	}
}

// P14.5: what is read of JSON texts has no losses, and stays.
func TestReadOfJson(t *testing.T) {
	for _, text := range []string{`null`, `true`, `0`, `-0`, `-0.0`, `1.50`, `1e3`, `1e-3`, `1e2000`, `""`, `"01ff"`, `"\u0000"`, `[]`, `{}`, `[[],{}]`, `[[1,2],[3,4]]`, `{"a":[1,{"b":null}],"":{"":"00"}}`, `[1,-1,0.1,"a",true,false,null]`} {
		n, fault := jread.Parse([]byte(text))
		if fault != (api.Fault{}) {
			t.Fatal(text, fault)
		}
		expectTold(t, n, n)
	}
}

// P14.2: lists of losses are the same, if their counts, Paths, Kinds and Ns are.
func TestSameLosses(t *testing.T) {
	lists := [][]api.Loss{
		{},
		losses(lossBytes()),
		losses(lossBytes(), lossBytes()),
		losses(lossBytes(), lossBytes(), lossBytes()),
		losses(lossBytes(0)),
		losses(lossBytes(0), lossBytes()),
		losses(lossBytes(), lossBytes(0)),
		losses(lossBytes(1)),
		losses(lossBytes(-1)),
		losses(lossBytes(0, 0)),
		losses(lossBytes(0, 1)),
		losses(lossBytes(1, 0)),
		losses(lossBytes(0, 0, 0)),
		losses(lossMap()),
		losses(lossMap(0)),
		losses(lossOf(0, 0)),
		losses(lossOf(-1, 0)),
		losses(lossOf(api.LossBytes, 1)),
		losses(lossOf(api.LossBytes, 1<<63)),
		losses(lossOf(api.LossBytes, math.MaxUint64)),
		losses(lossTag(1), lossTag(2)),
		losses(lossTag(2), lossTag(1)),
		losses(lossTag(1), lossTag(2, 0)),
		losses(lossTag(1), lossTag(3)),
		losses(lossTag(1), lossSimple(2)),
		losses(lossTag(1, 5), lossTag(2, 5)),
		slices.Repeat(losses(lossTag(1)), mostLosses),
		slices.Repeat(losses(lossTag(1)), mostLosses+1),
		losses(lossTag(1, make([]int, 1000)...)),
		losses(lossTag(1, make([]int, 1001)...)),
	}
	for i, a := range lists {
		for j, b := range lists {
			if got := conv.SameLosses(a, b); got != (i == j) {
				t.Fatalf("SameLosses(%.300s, %.300s) is %t", toldLosses(a), toldLosses(b), got)
			}
		}
		if !conv.SameLosses(a, copiedLosses(a)) {
			t.Fatalf("%.300s is not the same in other memory", toldLosses(a))
		}
	}
}

// P14.2: lists by chance, and such of which one thing is turned.
func TestSameLossesByChance(t *testing.T) {
	c := chance(8)
	seen := map[bool]int{}
	for range 4000 {
		told, l, _ := conv.ToJson(c.tree(4))
		for _, other := range [][]api.Loss{c.turned(told, l), copiedLosses(l)} {
			want := toldLosses(l) == toldLosses(other)
			seen[want]++
			if conv.SameLosses(l, other) != want || conv.SameLosses(other, l) != want {
				t.Fatalf("%s and %s: not %t", toldLosses(l), toldLosses(other), want)
			}
		}
	}
	if seen[true] < 1000 || seen[false] < 1000 {
		t.Fatal(seen)
	}
}

// R6: lists that are nil and lists that are empty are the same.
func TestEmptyLists(t *testing.T) {
	empty := func(kind int) api.Node {
		return api.Node{Kind: kind, Bytes: []byte{}, Keys: []api.Node{}, Kids: []api.Node{}}
	}
	none := []api.Loss{{Path: []int{}, Kind: api.LossBytes}}
	expectTold(t, empty(api.Null), nullNode())
	expectTold(t, empty(api.Array), arrayNode())
	expectTold(t, empty(api.Map), mapNode())
	expectTold(t, empty(api.Bytes), textNode(""), none...)
	expectTold(t, tagNode(1, empty(api.Simple)), nullNode(), lossTag(1), lossSimple(0))
	expectBack(t, empty(api.Text), bytesNode(), none...)
	expectBack(t, empty(api.Text), bytesNode(), lossBytes())
	expectBack(t, empty(api.Array), mapNode(), lossMap())
	expectBack(t, arrayNode(empty(api.Null)), arrayNode(simpleNode(3)), lossSimple(3, 0))
	expectBack(t, empty(api.Null), floatNode(noNumbers()[1]), lossOf(api.LossNan, noNumbers()[1]))
	zero := empty(api.Int)
	zero.Digits = "0"
	expectBack(t, zero, float(0), lossFloat(0))
	for _, l := range [][]api.Loss{nil, {}} {
		if got, why := conv.Restore(num(1), l); why != api.OK || !tree.Same(got, num(1)) {
			t.Fatal(small(got), why)
		}
		if !conv.SameLosses(l, nil) || !conv.SameLosses(nil, l) || !conv.SameLosses(l, []api.Loss{}) || conv.SameLosses(l, none) {
			t.Fatal(l)
		}
	}
	if !conv.SameLosses(none, losses(lossBytes())) || !conv.SameLosses(losses(lossBytes()), none) {
		t.Fatal("a Path that is nil and one that is empty are not the same")
	}
}

// copied is a tree in other memory, just as it is.
func copied(n api.Node) api.Node {
	n.Digits, n.Text, n.Bytes = strings.Clone(n.Digits), strings.Clone(n.Text), slices.Clone(n.Bytes)
	n.Keys, n.Kids = slices.Clone(n.Keys), slices.Clone(n.Kids)
	for i := range n.Keys {
		n.Keys[i] = copied(n.Keys[i])
	}
	for i := range n.Kids {
		n.Kids[i] = copied(n.Kids[i])
	}
	return n
}

// copiedLosses are losses in other memory, just as they are.
func copiedLosses(l []api.Loss) []api.Loss {
	l = slices.Clone(l)
	for i := range l {
		l[i].Path = slices.Clone(l[i].Path)
	}
	return l
}

// R4: trees and losses that are handed in, right and wrong ones, do not turn.
func TestArgumentsDoNotTurn(t *testing.T) {
	c := chance(137)
	for i := range 3000 {
		n := c.tree(5)
		if i%5 == 0 {
			c.put(&n, c.wrong())
		}
		kept := copied(n)
		told, l, _ := conv.ToJson(n)
		if !reflect.DeepEqual(n, kept) {
			t.Fatalf("%s has become %s", small(kept), small(n))
		}
		if i%2 == 0 {
			l = c.turned(told, l)
		}
		keptTold, keptLosses := copied(told), copiedLosses(l)
		conv.Restore(told, l)
		conv.SameLosses(l, l)
		if !reflect.DeepEqual(told, keptTold) || !reflect.DeepEqual(l, keptLosses) {
			t.Fatalf("%s, %s have become %s, %s", small(keptTold), toldLosses(keptLosses), small(told), toldLosses(l))
		}
	}
}

// R4: nothing is written behind the end of lists that are handed in, where there is room, and nothing is looked at there.
func TestRoomDoesNotTurn(t *testing.T) {
	kids := []api.Node{bytesNode(1), bytesNode(2), bytesNode(3)}
	keys := []api.Node{num(1), num(2), num(3)}
	path := []int{0, 1, 2, 3}
	run := []byte{1, 2, 3, 4}
	want := func() string {
		return fmt.Sprint(told(arrayNode(kids...)), told(arrayNode(keys...)), path, run)
	}
	kept := want()
	expectTold(t, arrayNode(kids[:2]...), arrayNode(textNode("01"), textNode("02")), lossBytes(0), lossBytes(1))
	expectTold(t, api.Node{Kind: api.Map, Keys: keys[:1], Kids: kids[:1]}, arrayNode(arrayNode(num(1), textNode("01"))), lossMap(), lossBytes(0, 1))
	expectTold(t, bytesNode(run[:2]...), textNode("0102"), lossBytes())
	expectTold(t, tagNode(1, bytesNode(run[1:3]...)), textNode("0203"), lossTag(1), lossBytes())
	expectBack(t, arrayNode(arrayNode(keys[:2]...)), arrayNode(tagNode(5, arrayNode(keys[:2]...))), lossTag(5, path[:1]...))
	expectBack(t, arrayNode(arrayNode(keys[:2]...)), arrayNode(arrayNode(num(1), tagNode(5, num(2)))), lossTag(5, path[:2]...))
	expectBack(t, arrayNode(arrayNode(keys[:2]...)), mapNode(num(1), num(2)), lossMap(path[:0]...))
	list := losses(lossTag(5), lossTag(6), lossTag(7))
	expectBack(t, num(1), tagNode(5, num(1)), list[:1]...)
	if want() != kept || toldLosses(list) != toldLosses(losses(lossTag(5), lossTag(6), lossTag(7))) {
		t.Fatal(want(), toldLosses(list))
	}
}

// span is a piece of memory.
type span struct {
	from, to uintptr
	name     string
}

// spanOf is the memory of a list, with the room behind it.
func spanOf[T any](name string, list []T) span {
	from := uintptr(unsafe.Pointer(unsafe.SliceData(list)))
	var one T
	return span{from, from + uintptr(cap(list))*unsafe.Sizeof(one), name}
}

// listSpans is all memory of a tree's lists.
func listSpans(n api.Node) []span {
	var all []span
	for _, at := range nodesOf(&n) {
		all = append(all, spanOf("Bytes", at.Bytes), spanOf("Keys", at.Keys), spanOf("Kids", at.Kids))
	}
	return all
}

// textSpans is all memory of a tree's texts.
func textSpans(n api.Node) []span {
	var all []span
	for _, at := range nodesOf(&n) {
		all = append(all, spanOf("Text", unsafe.Slice(unsafe.StringData(at.Text), len(at.Text))), spanOf("Digits", unsafe.Slice(unsafe.StringData(at.Digits), len(at.Digits))))
	}
	return all
}

// lossSpans is all memory of losses.
func lossSpans(l []api.Loss) []span {
	all := []span{spanOf("losses", l)}
	for _, one := range l {
		all = append(all, spanOf("Path", one.Path))
	}
	return all
}

// shared is a piece of memory that two of these have in common, in words; none, if there is no such one.
func shared(all []span) string {
	all = slices.DeleteFunc(slices.Clone(all), func(s span) bool { return s.from == s.to })
	slices.SortFunc(all, func(a, b span) int { return cmp.Compare(a.from, b.from) })
	for i := 1; i < len(all); i++ {
		if all[i-1].to > all[i].from {
			return all[i-1].name + " and " + all[i].name
		}
	}
	return ""
}

// once are pieces of memory, of which those that overlap are one.
func once(all []span) []span {
	all = slices.Clone(all)
	slices.SortFunc(all, func(a, b span) int { return cmp.Compare(a.from, b.from) })
	var one []span
	for _, s := range all {
		if last := len(one) - 1; last >= 0 && one[last].to > s.from {
			one[last].to = max(one[last].to, s.to)
		} else {
			one = append(one, s)
		}
	}
	return one
}

// R4: what is answered is new memory, of which no two lists share any, also where those that are handed in do.
func TestAnswersAreNewMemory(t *testing.T) {
	c := chance(515)
	part := arrayNode(bytesNode(1, 2), mapNode(num(1), textNode("abc")), tagNode(1, arrayNode(decNode(false, "15", -1), float(0.5))))
	pair := arrayNode(part, arrayNode(part))
	trees := []api.Node{part, arrayNode(part, part), mapNode(part, part), mapNode(num(1), pair), tagNode(5, mapNode(textNode("k"), part, textNode("l"), part))}
	for range 1500 {
		trees = append(trees, c.tree(6))
	}
	for _, n := range trees {
		got, l, why := conv.ToJson(n)
		if why != api.OK {
			continue
		}
		answer := slices.Concat(listSpans(got), lossSpans(l))
		given := once(slices.Concat(listSpans(n), textSpans(n)))
		if both := shared(answer) + shared(slices.Concat(answer, given)) + shared(slices.Concat(once(textSpans(got)), given)); both != "" {
			t.Fatalf("ToJson(%s): %s share memory", small(n), both)
		}
		back, why := conv.Restore(got, l)
		answer = listSpans(back)
		given = once(slices.Concat(listSpans(got), textSpans(got), lossSpans(l)))
		if both := shared(answer) + shared(slices.Concat(answer, given)) + shared(slices.Concat(once(textSpans(back)), given)); both != "" || why != api.OK {
			t.Fatalf("Restore(%s): %s share memory, %v", small(got), both, why)
		}
		runtime.KeepAlive([]any{n, got, l, back})
	}
	// Lists that are handed to Restore may share memory, too.
	list := arrayNode(pair, arrayNode(num(1), pair), arrayNode(num(2), pair))
	back, why := conv.Restore(arrayNode(list, list), losses(lossTag(1, 0), lossMap(1)))
	if both := shared(listSpans(back)); both != "" || why != api.OK {
		t.Fatalf("%s share memory, %v", both, why)
	}
}

// overwrite writes over all lists of a tree, and the room behind them.
func overwrite(n *api.Node) {
	for _, list := range [][]api.Node{n.Keys[:cap(n.Keys)], n.Kids[:cap(n.Kids)]} {
		for i := range list {
			overwrite(&list[i])
			list[i] = simpleNode(99)
		}
	}
	for i := range n.Bytes[:cap(n.Bytes)] {
		n.Bytes[:cap(n.Bytes)][i] ^= 0xA5
	}
}

// R4: what was answered may be written over, and so may what was handed in, without turning anything else.
func TestAnswersAreTheCallers(t *testing.T) {
	c := chance(64)
	for range 800 {
		n := c.tree(5)
		kept := copied(n)
		want, lost, why := modelToJson(kept)
		if why != api.OK {
			continue
		}
		first, l, _ := conv.ToJson(n)
		second, l2, _ := conv.ToJson(n)
		back, _ := conv.Restore(first, l)
		other, _ := conv.Restore(first, l)
		overwrite(&back)
		if !tree.Same(first, want) || toldLosses(l) != toldLosses(lost) || !tree.Same(other, kept) {
			t.Fatalf("%s: what was handed to Restore has turned", small(kept))
		}
		overwrite(&first)
		for i := range l {
			for j := range l[i].Path[:cap(l[i].Path)] {
				l[i].Path[:cap(l[i].Path)][j] = 77
			}
			l[i].Path = append(l[i].Path, 78)
		}
		if !tree.Same(n, kept) || !tree.Same(second, want) || toldLosses(l2) != toldLosses(lost) || !tree.Same(other, kept) {
			t.Fatalf("%s: what was answered before has turned", small(kept))
		}
		overwrite(&n)
		if !tree.Same(second, want) || toldLosses(l2) != toldLosses(lost) {
			t.Fatalf("%s: what was answered has turned with what was handed in", small(kept))
		}
	}
	// A Path that is made longer leaves those beside it as they are.
	_, l, _ := conv.ToJson(arrayNode(tagNode(1, bytesNode(1)), tagNode(2, arrayNode(float(1), float(2))), mapNode(num(1), bytesNode(2))))
	want := strings.Split(toldLosses(l), "; ")
	for i := range l {
		_ = append(l[i].Path, 1000)
		_ = append(l[i].Path[:0], 1000)
		for j := range l {
			if j > i && toldLosses(l[j:j+1]) != want[j]+"; " {
				t.Fatalf("%s has become %s", want[j], toldLosses(l[j:j+1]))
			}
		}
	}
}

// R3: the same calls have the same answers, whatever was called between.
func TestSameAnswers(t *testing.T) {
	c := chance(5)
	type answer struct {
		n    api.Node
		told string
	}
	tell := func(n api.Node) string {
		told1, l, why := conv.ToJson(n)
		back, why2 := conv.Restore(told1, l)
		_, why3 := conv.Restore(n, slices.Concat(l, losses(lossOf(9, 0))))
		return fmt.Sprint(told(told1), toldLosses(l), why, told(back), why2, why3)
	}
	var all []answer
	for i := range 500 {
		n := c.tree(5)
		if i%5 == 0 {
			c.put(&n, c.wrong())
		}
		all = append(all, answer{n, tell(n)})
	}
	for _, a := range slices.Backward(all) {
		if tell(a.n) != a.told {
			t.Fatalf("%s: %s, then %s", small(a.n), a.told, tell(a.n))
		}
	}
}
