package csay_test

import (
	"bytes"
	"encoding/binary"
	"encoding/hex"
	"fmt"
	"math"
	"math/big"
	"slices"
	"strings"
	"sync"
	"testing"

	"gantline/api"
	"gantline/cread"
	"gantline/csay"
	"gantline/tree"
)

// The document's bounds.
const (
	mostBytes  = 4096
	mostNodes  = 1024
	mostDepth  = 24
	mostDigits = 800
	mostExp    = 2000
)

// begin is the first byte of an item and its argument, in as many bytes as low tells: none of one below 24.
func begin(major, low int, n uint64) []byte {
	wide := binary.BigEndian.AppendUint64(nil, n)
	width := map[int]int{24: 1, 25: 2, 26: 4, 27: 8}[low]
	return append([]byte{byte(major*32 + low)}, wide[8-width:]...)
}

// modelHead is the shortest beginning of an item.
func modelHead(major int, n uint64) []byte {
	if n < 24 {
		return begin(major, int(n), n)
	}
	for _, low := range []int{24, 25, 26} {
		if n < 1<<(8<<(low-24)) {
			return begin(major, low, n)
		}
	}
	return begin(major, 27, n)
}

// modelBig are the bytes of a whole number.
func modelBig(n *big.Int) []byte {
	major, tag := 0, uint64(2)
	if n.Sign() < 0 {
		major, tag, n = 1, 3, new(big.Int).Not(n)
	}
	if n.IsUint64() {
		return modelHead(major, n.Uint64())
	}
	return joined(modelHead(6, tag), modelHead(2, uint64(len(n.Bytes()))), n.Bytes())
}

// bigOf is the number of Digits, below 0 if neg.
func bigOf(neg bool, digits string) *big.Int {
	n, ok := new(big.Int).SetString(digits, 10)
	if !ok {
		panic(digits)
	}
	if neg {
		n.Neg(n)
	}
	return n
}

// widened are bits of 16, 32 or 64 (low bits 25, 26, 27) as the library's floats have them in 64.
func widened(n uint64, low int) uint64 {
	switch {
	case low == 25 && n>>10&31 == 31:
		return n>>15<<63 | 2047<<52 | n&1023<<42
	case low == 25 && n>>10&31 == 0:
		return n>>15<<63 | math.Float64bits(math.Ldexp(float64(n&1023), -24))
	case low == 25:
		return n>>15<<63 | math.Float64bits(math.Ldexp(float64(1024+n&1023), int(n>>10&31)-25))
	case low == 26 && n>>23&255 == 255:
		return n>>31<<63 | 2047<<52 | n&(1<<23-1)<<29
	case low == 26:
		return math.Float64bits(float64(math.Float32frombits(uint32(n))))
	}
	return n
}

// halves are all bits of 64 that some bits of 16 are widened to, with these.
var halves = sync.OnceValue(func() map[uint64]uint64 {
	all := map[uint64]uint64{}
	for n := range uint64(1 << 16) {
		all[widened(n, 25)] = n
	}
	return all
})

// single are the bits of 32 that are widened to bits of 64; false, if there are none.
func single(n uint64) (uint64, bool) {
	short := uint64(math.Float32bits(float32(math.Float64frombits(n))))
	if n>>52&2047 == 2047 {
		short = n>>63<<31 | 255<<23 | n>>29&(1<<23-1)
	}
	return short, widened(short, 26) == n
}

// modelFloat are the bytes of a Float.
func modelFloat(n uint64) []byte {
	if half, ok := halves()[n]; ok {
		return begin(7, 25, half)
	}
	if short, ok := single(n); ok {
		return begin(7, 26, short)
	}
	return begin(7, 27, n)
}

// modelBytes are what the document's words ask of a tree that may be, however many.
func modelBytes(n api.Node) []byte {
	var kids []byte
	for i, kid := range n.Kids {
		if n.Kind == api.Map {
			kids = append(kids, modelBytes(n.Keys[i])...)
		}
		kids = append(kids, modelBytes(kid)...)
	}
	switch n.Kind {
	case api.Null:
		return []byte{0xF6}
	case api.Bool:
		return []byte{0xF4 + byte(n.N)}
	case api.Int:
		return modelBig(bigOf(n.Neg, n.Digits))
	case api.Dec:
		return joined([]byte{0xC4, 0x82}, modelBig(big.NewInt(int64(n.Exp))), modelBig(bigOf(n.Neg, n.Digits)))
	case api.Float:
		return modelFloat(n.N)
	case api.Text:
		return joined(modelHead(3, uint64(len(n.Text))), []byte(n.Text))
	case api.Bytes:
		return joined(modelHead(2, uint64(len(n.Bytes))), n.Bytes)
	case api.Array:
		return joined(modelHead(4, uint64(len(n.Kids))), kids)
	case api.Map:
		return joined(modelHead(5, uint64(len(n.Kids))), kids)
	case api.Tag:
		return joined(modelHead(6, n.N), kids)
	}
	if n.N < 24 {
		return []byte{0xE0 + byte(n.N)}
	}
	return []byte{0xF8, byte(n.N)}
}

// modelItems are how many items a tree is written as, and how many of them are within one another.
func modelItems(n api.Node) (items, depth int) {
	great := 0
	if n.Kind == api.Int || n.Kind == api.Dec {
		if b := modelBig(bigOf(n.Neg, n.Digits)); b[0] == 0xC2 || b[0] == 0xC3 {
			great = 1
		}
	}
	switch n.Kind {
	case api.Int:
		return 1 + great, 1 + great
	case api.Dec:
		return 4 + great, 3 + great
	}
	for _, kid := range slices.Concat(n.Keys, n.Kids) {
		more, deep := modelItems(kid)
		items, depth = items+more, max(depth, deep)
	}
	return items + 1, depth + 1
}

// modelMeans tells whether some Tag of a tree that may be is read as a number.
func modelMeans(n api.Node) bool {
	if n.Kind == api.Tag {
		kid := n.Kids[0]
		isInt := func(n api.Node) bool { return n.Kind == api.Int }
		if (n.N == 2 || n.N == 3) && kid.Kind == api.Bytes {
			return true
		}
		if n.N == 4 && kid.Kind == api.Array && len(kid.Kids) == 2 && isInt(kid.Kids[0]) && isInt(kid.Kids[1]) {
			return true
		}
	}
	return slices.ContainsFunc(slices.Concat(n.Keys, n.Kids), modelMeans)
}

// modelWhy is the error that the document's words ask of Encode.
func modelWhy(n api.Node) api.Errno {
	if why := tree.Check(n); why != api.OK {
		return why
	}
	if len(modelBytes(n)) > mostBytes {
		return api.ErrMany
	}
	if items, depth := modelItems(n); items > mostNodes || depth > mostDepth || modelMeans(n) {
		return api.ErrKind
	}
	return api.OK
}

func nullNode() api.Node { return api.Node{Kind: api.Null} }

func boolNode(n uint64) api.Node { return api.Node{Kind: api.Bool, N: n} }

func intNode(neg bool, digits string) api.Node {
	return api.Node{Kind: api.Int, Neg: neg, Digits: digits}
}

func bigNode(n *big.Int) api.Node {
	return intNode(n.Sign() < 0, new(big.Int).Abs(n).String())
}

// num is the Int of a small number.
func num(n int64) api.Node { return bigNode(big.NewInt(n)) }

func decNode(neg bool, digits string, exp int) api.Node {
	return api.Node{Kind: api.Dec, Neg: neg, Digits: digits, Exp: exp}
}

func floatNode(bits uint64) api.Node { return api.Node{Kind: api.Float, N: bits} }

// float is the Float of a number.
func float(x float64) api.Node { return floatNode(math.Float64bits(x)) }

func textNode(s string) api.Node { return api.Node{Kind: api.Text, Text: s} }

func bytesNode(b ...byte) api.Node { return api.Node{Kind: api.Bytes, Bytes: b} }

func arrayNode(kids ...api.Node) api.Node { return api.Node{Kind: api.Array, Kids: kids} }

// mapNode is a Map of Keys, each with its Kid behind it.
func mapNode(pairs ...api.Node) api.Node {
	n := api.Node{Kind: api.Map}
	for i, x := range pairs {
		if i%2 == 0 {
			n.Keys = append(n.Keys, x)
		} else {
			n.Kids = append(n.Kids, x)
		}
	}
	return n
}

func tagNode(tag uint64, kid api.Node) api.Node {
	return api.Node{Kind: api.Tag, N: tag, Kids: []api.Node{kid}}
}

func simpleNode(n uint64) api.Node { return api.Node{Kind: api.Simple, N: n} }

// row is an Array of one node many times.
func row(n api.Node, count int) api.Node { return arrayNode(slices.Repeat([]api.Node{n}, count)...) }

// manyKeys is a Map of the Keys 0, 1, 2 and so on, all with one Kid.
func manyKeys(count int, kid api.Node) api.Node {
	n := mapNode()
	for i := range count {
		n.Keys, n.Kids = append(n.Keys, num(int64(i))), append(n.Kids, kid)
	}
	return n
}

// within is a node in Arrays, Maps (as a Kid and as a Key) and Tags by turns, so many of them.
func within(n api.Node, depth int) api.Node {
	for i := range depth {
		switch i % 4 {
		case 0:
			n = arrayNode(n)
		case 1:
			n = mapNode(textNode("k"), n)
		case 2:
			n = tagNode(7, n)
		default:
			n = mapNode(n, nullNode())
		}
	}
	return n
}

// places are trees in which a node stands: alone, as a Kid and as a Key, ahead of, between and behind others, in a Tag, and deep.
func places(n api.Node) []api.Node {
	a, b, one := textNode("a"), textNode("b"), num(1)
	return []api.Node{
		n, arrayNode(n), arrayNode(n, a), arrayNode(a, n), arrayNode(one, n, b), arrayNode(n, n),
		mapNode(a, n), mapNode(a, n, b, one), mapNode(a, one, b, n), mapNode(arrayNode(n), a), mapNode(a, b, arrayNode(n), n, b, a),
		tagNode(5, n), tagNode(1<<40, tagNode(0, n)), arrayNode(arrayNode(), arrayNode(one, arrayNode(n)), mapNode()),
		within(n, 9), within(n, 10), within(n, 11), within(n, 12),
	}
}

// told is a text of all that a tree has.
func told(n api.Node) string {
	s := fmt.Sprintf("(%d %d %v %s %d %+q %x", n.Kind, n.N, n.Neg, n.Digits, n.Exp, n.Text, n.Bytes)
	for _, key := range n.Keys {
		s += " key" + told(key)
	}
	for _, kid := range n.Kids {
		s += " kid" + told(kid)
	}
	return s + ")"
}

// small is a tree for a message of a test.
func small(n api.Node) string {
	if !tree.Few(n) {
		return "a tree that is not few"
	}
	s := told(n)
	if len(s) > 400 {
		return s[:200] + " .. " + s[len(s)-200:]
	}
	return s
}

// short are bytes for a message of a test.
func short(b []byte) string {
	if len(b) > 120 {
		return fmt.Sprintf("% x .. % x (%d)", b[:60], b[len(b)-60:], len(b))
	}
	return fmt.Sprintf("% x", b)
}

// unhex are the bytes of hexadecimal digits, with blanks at will.
func unhex(digits string) []byte {
	b, err := hex.DecodeString(strings.ReplaceAll(digits, " ", ""))
	if err != nil {
		panic(err)
	}
	return b
}

// joined are bytes one behind the other.
func joined(parts ...[]byte) []byte { return slices.Concat(parts...) }

// times are bytes so many times.
func times(n int, b ...byte) []byte { return bytes.Repeat(b, n) }

// expectBytes holds a tree's bytes, and what follows of them: that they are decoded as the tree, and are their own form.
func expectBytes(t *testing.T, n api.Node, want []byte) {
	t.Helper()
	got, why := csay.Encode(n)
	if why != api.OK || !bytes.Equal(got, want) {
		t.Fatalf("Encode(%s) is %s, %v: not %s", small(n), short(got), why, short(want))
	}
	if back, fault := cread.Decode(got); fault != (api.Fault{}) || !tree.Same(back, n) {
		t.Fatalf("%s is decoded as %s, %v: not %s", short(got), small(back), fault, small(n))
	}
	expectForm(t, want, want)
}

// expectError holds the error of a tree that is refused.
func expectError(t *testing.T, n api.Node, want api.Errno) {
	t.Helper()
	if got, why := csay.Encode(n); why != want || len(got) != 0 {
		t.Fatalf("Encode(%s) is %s, %v: not %v", small(n), short(got), why, want)
	}
}

// expectModel holds Encode against the model, and is the error that the model asks for.
func expectModel(t *testing.T, n api.Node) api.Errno {
	t.Helper()
	why := modelWhy(n)
	if why != api.OK {
		expectError(t, n, why)
	} else {
		expectBytes(t, n, modelBytes(n))
	}
	return why
}

// expectForm holds the form of bytes; that it is its own form, and of the same tree.
func expectForm(t *testing.T, b, want []byte) {
	t.Helper()
	for _, from := range [][]byte{b, want} {
		if got, fault := csay.Form(from); fault != (api.Fault{}) || !bytes.Equal(got, want) {
			t.Fatalf("Form(%s) is %s, %v: not %s", short(from), short(got), fault, short(want))
		}
	}
	was, _ := cread.Decode(b)
	if is, _ := cread.Decode(want); !tree.Same(was, is) {
		t.Fatalf("%s is %s, its form %s is %s", short(b), small(was), short(want), small(is))
	}
}

// expectFault holds the fault of bytes that have no form.
func expectFault(t *testing.T, b []byte, why api.Errno, at int) {
	t.Helper()
	if got, fault := csay.Form(b); fault != (api.Fault{Why: why, At: at}) || len(got) != 0 {
		t.Fatalf("Form(%s) is %s, %v: not %v at %d", short(b), short(got), fault, why, at)
	}
}

// expectFormModel holds Form against layer 12 and the model, and is the fault's error.
func expectFormModel(t *testing.T, b []byte) api.Errno {
	t.Helper()
	n, fault := cread.Decode(b)
	if fault.Why != api.OK {
		expectFault(t, b, fault.Why, fault.At)
		return fault.Why
	}
	why := modelWhy(n)
	if why != api.OK {
		expectFault(t, b, why, 0)
	} else {
		expectForm(t, b, modelBytes(n))
	}
	return why
}

// chance is a row of numbers that look like chance, the same ones each time.
type chance uint64

func (c *chance) next() uint64 {
	*c ^= *c << 13
	*c ^= *c >> 7
	*c ^= *c << 17
	return uint64(*c)
}

func (c *chance) below(n int) int { return int(c.next() % uint64(n)) }

func (c *chance) of(list ...string) string { return list[c.below(len(list))] }

// number is some number of 64 bits, more often a small one.
func (c *chance) number() uint64 { return c.next() >> c.below(64) }

// some are a few bytes.
func (c *chance) some(most int) []byte {
	b := make([]byte, c.below(most+1))
	for i := range b {
		b[i] = byte(c.next())
	}
	return b
}

// words is a text.
func (c *chance) words() string {
	list := []string{"", "a", "b", "ab", "\u00e9", "\u20ac", "\U0001F600", "\x00", "e\u0301", strings.Repeat("x", 22)}
	return c.of(list...) + c.of(list...)
}

// whole is a whole number of few or many digits.
func (c *chance) whole() *big.Int {
	n := new(big.Int).SetUint64(c.number())
	if c.below(3) == 0 {
		n.SetBytes(c.some(40))
	}
	if c.below(8) == 0 {
		// Near 2^64, where the way of telling turns.
		n.Add(new(big.Int).Lsh(big.NewInt(1), 64), big.NewInt(int64(c.below(5)-2)))
	}
	if c.below(2) == 0 {
		n.Neg(n)
	}
	return n
}

// decimal is a Dec, of an Exp below 0, or of so great a one that it is not told as an Int.
func (c *chance) decimal() api.Node {
	n := bigNode(c.whole())
	n.Kind, n.Digits = api.Dec, strings.TrimRight(n.Digits, "0")
	if n.Digits == "" {
		n.Digits = "1"
	}
	n.Exp = -1 - c.below(mostExp)>>c.below(11)
	if c.below(3) == 0 {
		n.Exp = mostDigits + c.below(mostExp-mostDigits+1)
	}
	return n
}

// bits are those of a Float: of any, or of one that has room in fewer bits.
func (c *chance) bits() uint64 {
	low := 25 + c.below(3)
	n := c.next() >> (64 - 8<<(low-24))
	if c.below(4) == 0 {
		// No number, or without bound.
		n |= map[int]uint64{25: 31 << 10, 26: 255 << 23, 27: 2047 << 52}[low]
	}
	return widened(n, low)
}

// leaf is a node without others.
func (c *chance) leaf() api.Node {
	switch c.below(10) {
	case 0:
		return nullNode()
	case 1:
		return boolNode(uint64(c.below(2)))
	case 2:
		return simpleNode([]uint64{0, 19, 23, 32, uint64(c.below(20)), uint64(32 + c.below(224))}[c.below(6)])
	case 3:
		return c.decimal()
	case 4, 5:
		return floatNode(c.bits())
	case 6:
		return textNode(c.words())
	case 7:
		return bytesNode(c.some(30)...)
	}
	return bigNode(c.whole())
}

// tree is a tree that may be, of at most so many nodes within one another.
func (c *chance) tree(depth int) api.Node {
	if depth < 2 || c.below(4) == 0 {
		return c.leaf()
	}
	n := arrayNode()
	switch c.below(5) {
	case 0:
		return tagNode(c.tag(), c.tree(depth-1))
	case 1, 2:
		n.Kind = api.Map
	}
	for range c.below(5) {
		key := c.tree(depth - 1)
		isKey := func(k api.Node) bool { return tree.Same(k, key) }
		if n.Kind == api.Map && !slices.ContainsFunc(n.Keys, isKey) {
			n.Keys = append(n.Keys, key)
		}
		n.Kids = append(n.Kids, c.tree(depth-1))
	}
	if n.Kind == api.Map {
		n.Kids = n.Kids[:len(n.Keys)]
	}
	return n
}

// tag is the number of a Tag, now and then one that could mean a number.
func (c *chance) tag() uint64 {
	if c.below(4) == 0 {
		return uint64(1 + c.below(5))
	}
	return c.number()
}

// wrong is a node that may not be, or that is read as a number.
func (c *chance) wrong() api.Node {
	return []api.Node{
		textNode("\xFF"), intNode(false, "01"), intNode(true, "0"), decNode(false, "10", -1), decNode(false, "1", 2), boolNode(2), simpleNode(24), {Kind: 11}, {Kind: api.Null, Text: "a"},
		mapNode(c.leaf(), nullNode(), c.leaf()), mapNode(num(1), c.leaf(), num(1), c.leaf()), tagNode(2, bytesNode(c.some(12)...)), tagNode(3, bytesNode(c.some(12)...)),
		tagNode(4, arrayNode(num(int64(c.below(10))), bigNode(c.whole()))), tagNode(4, arrayNode(bigNode(c.whole()), bigNode(c.whole()))),
	}[c.below(15)]
}

// nodesOf are the places of all nodes in a tree.
func nodesOf(n *api.Node) []*api.Node {
	all := []*api.Node{n}
	for i := range n.Keys {
		all = append(all, nodesOf(&n.Keys[i])...)
	}
	for i := range n.Kids {
		all = append(all, nodesOf(&n.Kids[i])...)
	}
	return all
}

// put puts a node at some place of a tree.
func (c *chance) put(n *api.Node, x api.Node) {
	all := nodesOf(n)
	*all[c.below(len(all))] = x
}

// head is the beginning of an item, in one of the widths that have room.
func (c *chance) head(major int, n uint64) []byte {
	for {
		low := 24 + c.below(4)
		switch {
		case c.below(2) == 0:
			return modelHead(major, n)
		case low == 27, n < 1<<(8<<(low-24)):
			return begin(major, low, n)
		}
	}
}

// other are bytes of a tree in one of its other forms.
func (c *chance) other(n api.Node) []byte {
	var parts []byte
	for i, kid := range n.Kids {
		if n.Kind == api.Map {
			parts = append(parts, c.other(n.Keys[i])...)
		}
		parts = append(parts, c.other(kid)...)
	}
	switch n.Kind {
	case api.Int, api.Dec:
		return c.otherNumber(n)
	case api.Float:
		return c.otherFloat(n.N)
	case api.Text:
		return c.otherRun(3, n.Text)
	case api.Bytes:
		return c.otherRun(2, string(n.Bytes))
	case api.Array:
		return c.otherList(4, len(n.Kids), parts)
	case api.Map:
		return c.otherList(5, len(n.Kids), parts)
	case api.Tag:
		return joined(c.head(6, n.N), parts)
	}
	return modelBytes(n)
}

// otherList is an Array or a Map, with or without an end.
func (c *chance) otherList(major, count int, parts []byte) []byte {
	if c.below(2) == 0 {
		return joined([]byte{byte(major*32 + 31)}, parts, []byte{255})
	}
	return joined(c.head(major, uint64(count)), parts)
}

// otherRun is Bytes or a Text, in one, or in parts that are cut between characters.
func (c *chance) otherRun(major int, s string) []byte {
	if c.below(2) == 0 {
		return joined(c.head(major, uint64(len(s))), []byte(s))
	}
	b := []byte{byte(major*32 + 31)}
	runes := strings.SplitAfter(s, "")
	for len(runes) > 0 {
		cut := c.below(len(runes) + 1)
		part := strings.Join(runes[:cut], "")
		b = joined(b, c.head(major, uint64(len(part))), []byte(part))
		runes = runes[cut:]
	}
	return append(b, 255)
}

// otherFloat is a Float in some width that has room for it.
func (c *chance) otherFloat(n uint64) []byte {
	half, isHalf := halves()[n]
	short, isSingle := single(n)
	switch {
	case isHalf && c.below(3) == 0:
		return begin(7, 25, half)
	case isSingle && c.below(2) == 0:
		return begin(7, 26, short)
	}
	return begin(7, 27, n)
}

// otherNumber is an Int or a Dec in one of the ways that there are.
func (c *chance) otherNumber(n api.Node) []byte {
	size := bigOf(n.Neg, n.Digits)
	if n.Kind == api.Int && c.below(3) > 0 {
		return c.otherWhole(size)
	}
	more := c.below(3)
	size.Mul(size, new(big.Int).Exp(big.NewInt(10), big.NewInt(int64(more)), nil))
	pair := joined(c.otherWhole(big.NewInt(int64(n.Exp-more))), c.otherWhole(size))
	return joined(c.head(6, 4), c.otherList(4, 2, pair))
}

// otherWhole is a whole number, by its major type, or by a tag of Bytes, also with bytes 0 ahead.
func (c *chance) otherWhole(n *big.Int) []byte {
	major, tag := 0, uint64(2)
	if n.Sign() < 0 {
		major, tag, n = 1, 3, new(big.Int).Not(n)
	}
	if n.IsUint64() && c.below(3) > 0 {
		return c.head(major, n.Uint64())
	}
	return joined(c.head(6, tag), c.otherRun(2, strings.Repeat("\x00", c.below(3))+string(n.Bytes())))
}

// spoiled are bytes of which some are left out, turned or put in.
func (c *chance) spoiled(b []byte) []byte {
	b = slices.Clone(b)
	at := c.below(len(b) + 1)
	switch c.below(4) {
	case 0:
		return slices.Insert(b, at, unhex(c.of("ff", "1c", "9f", "bf", "5f", "7f", "c2", "c4", "f8", "f8 10", "61 80", "61 c3", "00", "18", "a2 01", "bf 01 02 01", "c4 82 19 08 00 01"))...)
	case 1:
		return b[:at]
	case 2:
		return slices.Delete(b, at, min(len(b), at+1+c.below(3)))
	}
	if at < len(b) {
		b[at] = byte(c.next())
	}
	return b
}
