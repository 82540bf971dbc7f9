package cread_test

import (
	"bytes"
	"encoding/binary"
	"encoding/hex"
	"fmt"
	"math"
	"math/big"
	"reflect"
	"slices"
	"strings"
	"testing"
	"unicode/utf8"

	"gantline/api"
	"gantline/cread"
	"gantline/tree"
)

// The document's bounds.
const (
	mostBytes  = 4096
	mostNodes  = 1024
	mostDepth  = 24
	mostText   = 4096
	mostDigits = 800
	mostExp    = 2000
	mostPower  = 1_000_000
	mostNumber = 400 // bytes of a number of layer 5
)

// found is a fault, and its place in the order in which faults are told: twice the byte, one less for what is told behind the bytes ahead of it.
type found struct {
	fault api.Fault
	order int
}

// model reads on behind a fault, as far as can be, and holds all faults against each other at the end.
type model struct {
	b     []byte
	at    int
	nodes int
	all   []found
	over  bool // whether there is no reading on
}

// modelItem is what the document's words ask of Item.
func modelItem(b []byte, at int) (api.Node, int, api.Fault) {
	switch {
	case len(b) > mostBytes:
		return api.Node{}, 0, api.Fault{Why: api.ErrMany}
	case at < 0 || at >= len(b):
		return api.Node{}, 0, api.Fault{Why: api.ErrEnd, At: len(b)}
	}
	m := &model{b: b, at: at}
	n := m.item(1)
	if len(m.all) == 0 {
		return n, m.at, api.Fault{}
	}
	first := slices.MinFunc(m.all, func(x, y found) int { return x.order - y.order })
	return api.Node{}, 0, first.fault
}

// modelDecode is what the document's words ask of Decode.
func modelDecode(b []byte) (api.Node, api.Fault) {
	n, end, fault := modelItem(b, 0)
	if fault.Why == api.OK && end < len(b) {
		return api.Node{}, api.Fault{Why: api.ErrMore, At: end}
	}
	return n, fault
}

// tell adds a fault that stands at a byte; of several there it is the first that was told.
func (m *model) tell(why api.Errno, at int) {
	m.all = append(m.all, found{api.Fault{Why: why, At: at}, 2 * at})
}

// tellBehind adds a fault that is told of all that was read.
func (m *model) tellBehind(why api.Errno, at int) {
	m.all = append(m.all, found{api.Fault{Why: why, At: at}, 2*m.at - 1})
}

// stop adds a fault behind which nothing can be read.
func (m *model) stop(why api.Errno, at int) {
	m.tell(why, at)
	m.over = true
}

// next is a byte further on, -1 if there is none.
func (m *model) next() int {
	if m.at >= len(m.b) {
		return -1
	}
	return int(m.b[m.at])
}

// argument is the argument of a first byte whose low bits are below 28, which was taken; false, if it is cut off.
func (m *model) argument(low int) (*big.Int, bool) {
	if low < 24 {
		return big.NewInt(int64(low)), true
	}
	width := map[int]int{24: 1, 25: 2, 26: 4, 27: 8}[low]
	if len(m.b)-m.at < width {
		return big.NewInt(0), false
	}
	n := new(big.Int).SetBytes(m.b[m.at : m.at+width])
	m.at += width
	return n, true
}

func (m *model) item(depth int) api.Node {
	at, first := m.at, m.next()
	if first < 0 {
		m.stop(api.ErrEnd, len(m.b))
		return api.Node{}
	}
	major, low := first/32, first%32
	if low >= 28 && low <= 30 || low == 31 && slices.Contains([]int{0, 1, 6, 7}, major) {
		m.stop(api.ErrForm, at)
		return api.Node{}
	}
	m.at++
	m.nodes++
	n, whole := big.NewInt(-1), true
	if low < 31 {
		n, whole = m.argument(low)
	}
	if m.nodes > mostNodes {
		m.tell(api.ErrMany, at)
	}
	if (major == 2 || major == 3) && n.Cmp(big.NewInt(mostText)) > 0 {
		m.tell(api.ErrMany, at)
	}
	if depth > mostDepth {
		m.tell(api.ErrDeep, at)
	}
	if !whole {
		m.stop(api.ErrEnd, len(m.b))
		return api.Node{}
	}
	return m.inside(at, depth, major, low, n)
}

func (m *model) inside(at, depth, major, low int, n *big.Int) api.Node {
	switch major {
	case 0:
		return bigNode(n)
	case 1:
		return bigNode(new(big.Int).Not(n))
	case 2:
		return bytesNode(m.run(at, major, n))
	case 3:
		return textNode(string(m.run(at, major, n)))
	case 4:
		return m.list(depth, n)
	case 5:
		return m.pairs(depth, n)
	case 6:
		return m.tagged(at, n.Uint64(), m.item(depth+1))
	}
	switch {
	case low == 20 || low == 21:
		return boolNode(low == 21)
	case low == 22:
		return nullNode()
	case low == 24 && n.Int64() < 32:
		m.stop(api.ErrForm, at+1)
	case low >= 25:
		return floatNode(modelWiden(n.Uint64(), low))
	}
	return simpleNode(n.Uint64())
}

// run are the bytes of a Bytes or a Text that begins at a place; n is below 0, if it is without an end.
func (m *model) run(at, major int, n *big.Int) []byte {
	if n.Sign() >= 0 {
		return m.piece(major, n)
	}
	var all []byte
	total := big.NewInt(0)
	for !m.over {
		part := m.next()
		switch {
		case part < 0:
			m.stop(api.ErrEnd, len(m.b))
		case part == 255:
			m.at++
			return all
		case part/32 != major || part%32 > 27:
			m.stop(api.ErrForm, m.at)
		default:
			m.at++
			size, whole := m.argument(part % 32)
			if !whole {
				m.stop(api.ErrEnd, len(m.b))
				return nil
			}
			if total.Add(total, size); total.Cmp(big.NewInt(mostText)) > 0 {
				m.tellBehind(api.ErrMany, at)
			}
			all = append(all, m.piece(major, size)...)
		}
	}
	return nil
}

// piece are n bytes; of a Text they are looked at.
func (m *model) piece(major int, n *big.Int) []byte {
	there := m.b[m.at:]
	whole := n.Cmp(big.NewInt(int64(len(there)))) <= 0
	if whole {
		there = there[:n.Int64()]
	}
	wrong, early := modelText(there)
	switch {
	case major == 3 && wrong >= 0:
		m.tell(api.ErrUtf, m.at+wrong)
	case major == 3 && early && whole:
		m.at += len(there)
		m.tellBehind(api.ErrUtf, m.at)
		return nil
	}
	m.at += len(there)
	if !whole {
		m.stop(api.ErrEnd, len(m.b))
	}
	return there
}

// modelText is the place of a text's first wrong byte, -1 if there is none, and whether a character is cut off at the end.
func modelText(b []byte) (int, bool) {
	for at := 0; at < len(b); {
		if !utf8.FullRune(b[at:]) {
			return -1, true
		}
		_, size := utf8.DecodeRune(b[at:])
		if !utf8.Valid(b[at : at+size]) {
			more := 1
			for !utf8.FullRune(b[at : at+more]) {
				more++
			}
			return at + more - 1, false
		}
		at += size
	}
	return -1, false
}

// ended tells whether there is no more of something that has n items, or, n below 0, no end.
func (m *model) ended(n *big.Int, done int) bool {
	if n.Sign() < 0 && m.next() == 255 {
		m.at++
		return true
	}
	return m.over || n.Cmp(big.NewInt(int64(done))) == 0
}

func (m *model) list(depth int, n *big.Int) api.Node {
	list := arrayNode()
	for !m.ended(n, len(list.Kids)) {
		list.Kids = append(list.Kids, m.item(depth+1))
	}
	return list
}

func (m *model) pairs(depth int, n *big.Int) api.Node {
	pairs := mapNode()
	there := map[string]bool{}
	for !m.ended(n, len(pairs.Kids)) {
		at := m.at
		key := m.item(depth + 1)
		if m.over {
			return mapNode()
		}
		told := toldNode(key)
		if there[told] {
			m.tellBehind(api.ErrTwice, at)
		}
		there[told] = true
		pairs.Keys = append(pairs.Keys, key)
		pairs.Kids = append(pairs.Kids, m.item(depth+1))
	}
	return pairs
}

func (m *model) tagged(at int, tag uint64, kid api.Node) api.Node {
	if m.over {
		return api.Node{}
	}
	n, ok := tagNode(tag, kid), true
	switch {
	case tag == 2 && kid.Kind == api.Bytes:
		n, ok = modelNatural(kid.Bytes, false)
	case tag == 3 && kid.Kind == api.Bytes:
		n, ok = modelNatural(kid.Bytes, true)
	case tag == 4 && kid.Kind == api.Array && len(kid.Kids) == 2 && kid.Kids[0].Kind == api.Int && kid.Kids[1].Kind == api.Int:
		n, ok = modelDecimal(kid.Kids[0], kid.Kids[1])
	}
	if !ok {
		m.tellBehind(api.ErrNum, at)
	}
	return n
}

// modelNatural is the Int of bytes, or -1 less it; false, if it is too long.
func modelNatural(b []byte, below bool) (api.Node, bool) {
	n := new(big.Int).SetBytes(b)
	if len(b) > mostNumber || len(n.String()) > mostDigits {
		return api.Node{}, false
	}
	if below {
		n.Not(n)
	}
	node := bigNode(n)
	return node, len(node.Digits) <= mostDigits
}

// modelDecimal is an Int, times 10 to the power of another; false, if it is too long.
func modelDecimal(power, size api.Node) (api.Node, bool) {
	p, _ := new(big.Int).SetString(power.Digits, 10)
	if p.Cmp(big.NewInt(mostPower)) > 0 {
		return api.Node{}, false
	}
	if size.Digits == "0" {
		return intNode(false, "0"), true
	}
	exp := int(p.Int64())
	if power.Neg {
		exp = -exp
	}
	digits := strings.TrimRight(size.Digits, "0")
	exp += len(size.Digits) - len(digits)
	switch {
	case exp < -mostExp || exp > mostExp:
		return api.Node{}, false
	case exp < 0 || len(digits)+exp > mostDigits:
		return decNode(size.Neg, digits, exp), true
	}
	return intNode(size.Neg, digits+strings.Repeat("0", exp)), true
}

// modelWiden are bits of 16, 32 or 64 (low bits 25, 26, 27) as the library's floats have them in 64.
func modelWiden(n uint64, low int) uint64 {
	switch {
	case low == 25:
		sign, exponent, fraction := n>>15, int(n>>10&31), n&1023
		if exponent == 31 {
			return sign<<63 | 2047<<52 | fraction<<42
		}
		number := math.Ldexp(float64(fraction), -24)
		if exponent > 0 {
			number = math.Ldexp(float64(1024+fraction), exponent-25)
		}
		return sign<<63 | math.Float64bits(number)
	case low == 26 && n>>23&255 == 255:
		return n>>31<<63 | 2047<<52 | n&(1<<23-1)<<29
	case low == 26:
		return math.Float64bits(float64(math.Float32frombits(uint32(n))))
	}
	return n
}

func nullNode() api.Node { return api.Node{Kind: api.Null} }

func boolNode(is bool) api.Node {
	if is {
		return api.Node{Kind: api.Bool, N: 1}
	}
	return api.Node{Kind: api.Bool}
}

func intNode(neg bool, digits string) api.Node {
	return api.Node{Kind: api.Int, Neg: neg, Digits: digits}
}

// num is the Int of a small number.
func num(n int64) api.Node { return bigNode(big.NewInt(n)) }

func bigNode(n *big.Int) api.Node {
	return intNode(n.Sign() < 0, new(big.Int).Abs(n).String())
}

func decNode(neg bool, digits string, exp int) api.Node {
	return api.Node{Kind: api.Dec, Neg: neg, Digits: digits, Exp: exp}
}

func floatNode(bits uint64) api.Node { return api.Node{Kind: api.Float, N: bits} }

// float is the Float of a number.
func float(x float64) api.Node { return floatNode(math.Float64bits(x)) }

func textNode(s string) api.Node { return api.Node{Kind: api.Text, Text: s} }

func bytesNode(b []byte) api.Node { return api.Node{Kind: api.Bytes, Bytes: b} }

func arrayNode(kids ...api.Node) api.Node { return api.Node{Kind: api.Array, Kids: kids} }

// mapNode is a Map of keys, each with its kid behind it.
func mapNode(pairs ...api.Node) api.Node {
	n := api.Node{Kind: api.Map}
	for i, x := range pairs {
		if i%2 == 0 {
			n.Keys = append(n.Keys, x)
		} else {
			n.Kids = append(n.Kids, x)
		}
	}
	return n
}

func tagNode(tag uint64, kid api.Node) api.Node {
	return api.Node{Kind: api.Tag, N: tag, Kids: []api.Node{kid}}
}

func simpleNode(n uint64) api.Node { return api.Node{Kind: api.Simple, N: n} }

// toldNode is a text of all that a tree has.
func toldNode(n api.Node) string {
	told := fmt.Sprintf("(%d %d %v %s %d %q %x", n.Kind, n.N, n.Neg, n.Digits, n.Exp, n.Text, n.Bytes)
	for _, key := range n.Keys {
		told += " key" + toldNode(key)
	}
	for _, kid := range n.Kids {
		told += " kid" + toldNode(kid)
	}
	return told + ")"
}

// unhex are the bytes of hexadecimal digits, with blanks at will.
func unhex(digits string) []byte {
	b, err := hex.DecodeString(strings.ReplaceAll(digits, " ", ""))
	if err != nil {
		panic(err)
	}
	return b
}

// joined are bytes one behind the other.
func joined(parts ...[]byte) []byte { return slices.Concat(parts...) }

// times are bytes so many times.
func times(n int, b ...byte) []byte { return bytes.Repeat(b, n) }

// begin is the first byte of an item and its argument, in as many bytes as low tells: the number itself of one below 24.
func begin(major int, low int, n uint64) []byte {
	b := binary.BigEndian.AppendUint64([]byte{byte(major<<5 | low)}, n)
	switch low {
	case 24:
		return append(b[:1], b[8:]...)
	case 25:
		return append(b[:1], b[7:]...)
	case 26:
		return append(b[:1], b[5:]...)
	case 27:
		return b
	}
	return b[:1]
}

// head is the shortest beginning of an item.
func head(major int, n uint64) []byte {
	switch {
	case n < 24:
		return begin(major, int(n), n)
	case n < 1<<8:
		return begin(major, 24, n)
	case n < 1<<16:
		return begin(major, 25, n)
	case n < 1<<32:
		return begin(major, 26, n)
	}
	return begin(major, 27, n)
}

// bytesItem and textItem are items of these.
func bytesItem(b []byte) []byte { return joined(head(2, uint64(len(b))), b) }

func textItem(s string) []byte { return joined(head(3, uint64(len(s))), []byte(s)) }

// intItem is an item of major type 0 or 1.
func intItem(n int64) []byte {
	if n < 0 {
		return head(1, uint64(-1-n))
	}
	return head(0, uint64(n))
}

// short are bytes for a message of a test.
func short(b []byte) string {
	if len(b) > 120 {
		return fmt.Sprintf("% x .. % x (%d)", b[:60], b[len(b)-60:], len(b))
	}
	return fmt.Sprintf("% x", b)
}

// expectTree holds a tree against what is read of b, alone and within other bytes; what is read may be, and no beginning of b is an item.
func expectTree(t *testing.T, b []byte, want api.Node) {
	t.Helper()
	got, fault := cread.Decode(b)
	if fault != (api.Fault{}) || !tree.Same(got, want) || tree.Check(got) != api.OK {
		t.Fatalf("Decode(%s) is %s, %v, %v; not %s", short(b), toldNode(got), fault, tree.Check(got), toldNode(want))
	}
	expectItem(t, b, 0, want, len(b))
	if len(b) <= 300 {
		expectItem(t, joined(unhex("ff 00"), b, unhex("00 ff")), 2, want, 2+len(b))
		expectItem(t, joined(unhex("9f"), b, b), 1, want, 1+len(b))
		for n := range b {
			expectFault(t, b[:n], api.ErrEnd, n)
		}
	}
}

// expectItem holds what Item tells of a place.
func expectItem(t *testing.T, b []byte, at int, want api.Node, wantEnd int) {
	t.Helper()
	got, end, fault := cread.Item(b, at)
	if fault != (api.Fault{}) || end != wantEnd || !tree.Same(got, want) {
		t.Fatalf("Item(%s, %d) is %s, %d, %v; not %s, %d", short(b), at, toldNode(got), end, fault, toldNode(want), wantEnd)
	}
}

// expectFault holds a fault against what is read of b, alone and behind other bytes; with it there is no tree and no place.
func expectFault(t *testing.T, b []byte, why api.Errno, at int) {
	t.Helper()
	got, fault := cread.Decode(b)
	if fault != (api.Fault{Why: why, At: at}) || !reflect.DeepEqual(got, api.Node{}) {
		t.Fatalf("Decode(%s) is %s, %v: not %v at %d", short(b), toldNode(got), fault, why, at)
	}
	expectItemFault(t, b, 0, why, at)
	if len(b) <= mostBytes-3 && len(b) > 0 {
		expectItemFault(t, joined(unhex("82 1c ff"), b), 3, why, at+3)
	}
}

// expectItemFault is expectFault of an item at a place.
func expectItemFault(t *testing.T, b []byte, from int, why api.Errno, at int) {
	t.Helper()
	got, end, fault := cread.Item(b, from)
	if fault != (api.Fault{Why: why, At: at}) || end != 0 || !reflect.DeepEqual(got, api.Node{}) {
		t.Fatalf("Item(%s, %d) is %s, %d, %v: not %v at %d", short(b), from, toldNode(got), end, fault, why, at)
	}
}

// expectWrong is expectFault of bytes that are wrong, whatever stands behind them.
func expectWrong(t *testing.T, b []byte, why api.Errno, at int) {
	t.Helper()
	expectFault(t, b, why, at)
	for _, more := range []string{"00", "ff", "ff ff ff", "1c", "41 61", "9f 00"} {
		if len(b)+len(more)/2 <= mostBytes {
			expectFault(t, joined(b, unhex(more)), why, at)
		}
	}
}

// expectModel holds Decode and Item against the model, at a place.
func expectModel(t *testing.T, b []byte, at int) api.Errno {
	t.Helper()
	want, end, fault := modelItem(b, at)
	if fault.Why == api.OK {
		expectItem(t, b, at, want, end)
	} else {
		expectItemFault(t, b, at, fault.Why, fault.At)
	}
	want, fault = modelDecode(b)
	got, gotFault := cread.Decode(b)
	if !tree.Same(got, want) || gotFault != fault {
		t.Fatalf("Decode(%s) is %s, %v; not %s, %v", short(b), toldNode(got), gotFault, toldNode(want), fault)
	}
	return fault.Why
}

// chance is a row of numbers that look like chance, the same ones each time.
type chance uint64

func (c *chance) next() uint64 {
	*c ^= *c << 13
	*c ^= *c >> 7
	*c ^= *c << 17
	return uint64(*c)
}

func (c *chance) below(n int) int { return int(c.next() % uint64(n)) }

// some are a few bytes.
func (c *chance) some(most int) []byte {
	b := make([]byte, c.below(most+1))
	for i := range b {
		b[i] = byte(c.next())
	}
	return b
}

// words is a text.
func (c *chance) words() string {
	list := []string{"", "a", "b", "ab", "\u00e9", "\u20ac", "\U0001F600", "\x00", "e\u0301"}
	return list[c.below(len(list))] + list[c.below(len(list))]
}

// head is the beginning of an item, in one of the widths that have room.
func (c *chance) head(major int, n uint64) []byte {
	for {
		low := 24 + c.below(4)
		switch {
		case c.below(2) == 0:
			return head(major, n)
		case low == 27, n < 1<<(8<<(low-24)):
			return begin(major, low, n)
		}
	}
}

// number is some number of 64 bits, more often a small one.
func (c *chance) number() uint64 { return c.next() >> c.below(64) }

// item is an item's bytes, of at most so many items within one another, and the tree that they tell.
func (c *chance) item(depth int) ([]byte, api.Node) {
	kinds := 12
	if depth < 3 {
		kinds = 6
	}
	switch c.below(kinds) {
	case 0:
		n := c.number()
		return c.head(0, n), bigNode(new(big.Int).SetUint64(n))
	case 1:
		n := c.number()
		return c.head(1, n), bigNode(new(big.Int).Not(new(big.Int).SetUint64(n)))
	case 2:
		b := c.some(6)
		return c.run(2, string(b)), bytesNode(b)
	case 3:
		s := c.words()
		return c.run(3, s), textNode(s)
	case 4:
		return c.simple()
	case 5:
		if depth > 1 && c.below(2) == 0 {
			return c.madeNumber()
		}
		return c.float()
	case 6, 7:
		return c.array(depth)
	case 8, 9:
		return c.pairs(depth)
	case 10:
		return c.madeNumber()
	}
	tag := 5 + c.number()>>1
	b, kid := c.item(depth - 1)
	return joined(c.head(6, tag), b), tagNode(tag, kid)
}

// run is an item of bytes or a text, in one, or in parts that are cut between characters.
func (c *chance) run(major int, s string) []byte {
	if c.below(3) > 0 {
		return joined(c.head(major, uint64(len(s))), []byte(s))
	}
	b := []byte{byte(major<<5 | 31)}
	for {
		n := 0
		if c.below(3) > 0 {
			_, n = utf8.DecodeRuneInString(s)
		}
		b = append(b, joined(c.head(major, uint64(n)), []byte(s[:n]))...)
		s = s[n:]
		if s == "" {
			return append(b, 255)
		}
	}
}

func (c *chance) simple() ([]byte, api.Node) {
	switch n := c.below(24); {
	case n == 20 || n == 21:
		return []byte{0xE0 + byte(n)}, boolNode(n == 21)
	case n == 22 || n < 3:
		return []byte{0xF6}, nullNode()
	case n < 10:
		n = 32 + c.below(224)
		return []byte{0xF8, byte(n)}, simpleNode(uint64(n))
	default:
		return []byte{0xE0 + byte(n)}, simpleNode(uint64(n))
	}
}

func (c *chance) float() ([]byte, api.Node) {
	low := 25 + c.below(3)
	bits := c.next() >> (64 - 8<<(low-24))
	return begin(7, low, bits), floatNode(modelWiden(bits, low))
}

// list is the beginning and the end of an Array or a Map of n.
func (c *chance) list(major, n int) ([]byte, []byte) {
	if c.below(2) == 0 {
		return []byte{byte(major<<5 | 31)}, []byte{255}
	}
	return c.head(major, uint64(n)), nil
}

func (c *chance) array(depth int) ([]byte, api.Node) {
	n := arrayNode()
	var parts []byte
	for range c.below(4) {
		b, kid := c.item(depth - 1)
		parts = append(parts, b...)
		n.Kids = append(n.Kids, kid)
	}
	first, last := c.list(4, len(n.Kids))
	return joined(first, parts, last), n
}

func (c *chance) pairs(depth int) ([]byte, api.Node) {
	n := mapNode()
	var parts []byte
	for range c.below(4) {
		b, key := c.item(depth - 1)
		if slices.ContainsFunc(n.Keys, func(k api.Node) bool { return toldNode(k) == toldNode(key) }) {
			continue
		}
		more, kid := c.item(depth - 1)
		parts = joined(parts, b, more)
		n.Keys, n.Kids = append(n.Keys, key), append(n.Kids, kid)
	}
	first, last := c.list(5, len(n.Keys))
	return joined(first, parts, last), n
}

// madeNumber is a number made of a tag.
func (c *chance) madeNumber() ([]byte, api.Node) {
	b := c.some(12)
	n := new(big.Int).SetBytes(b)
	switch c.below(3) {
	case 0:
		return joined(c.head(6, 2), c.run(2, string(b))), bigNode(n)
	case 1:
		return joined(c.head(6, 3), c.run(2, string(b))), bigNode(n.Not(n))
	}
	power, size := num(int64(c.below(40))-20), num(int64(c.number()>>1))
	if size.Digits != "0" {
		size.Neg = c.below(2) == 0
	}
	node, _ := modelDecimal(power, size)
	first, last := c.list(4, 2)
	return joined(c.head(6, 4), first, c.int(power), c.int(size), last), node
}

// int is an item of an Int of at most 64 bits, by its major type or a tag.
func (c *chance) int(n api.Node) []byte {
	size, _ := new(big.Int).SetString(n.Digits, 10)
	major, tag := 0, uint64(2)
	if n.Neg {
		size.Sub(size, big.NewInt(1))
		major, tag = 1, 3
	}
	if c.below(3) == 0 {
		return joined(c.head(6, tag), c.run(2, string(times(c.below(3), 0))+string(size.Bytes())))
	}
	return c.head(major, size.Uint64())
}

// spoiled are bytes of which some are left out, turned or put in.
func (c *chance) spoiled(b []byte) []byte {
	b = slices.Clone(b)
	for range 1 + c.below(2) {
		at := c.below(len(b) + 1)
		switch c.below(4) {
		case 0:
			list := []string{"ff", "1c", "9f", "bf", "5f", "7f", "c2", "c4", "f8", "f8 10", "61 80", "61 c3", "62", "00", "18", "a2 01", "bf 01 02 01", "c3 59 02 00", "c4 82 19 08 00 01", "5b", "7a 00 01"}
			b = slices.Insert(b, at, unhex(list[c.below(len(list))])...)
		case 1:
			b = b[:at]
		case 2:
			b = slices.Delete(b, at, min(len(b), at+1+c.below(3)))
		default:
			if at < len(b) {
				b[at] = byte(c.next())
			}
		}
	}
	return b
}

// mess is a row of beginnings, and of what is none.
func (c *chance) mess() []byte {
	list := []string{
		"9f", "9f", "bf", "bf", "5f", "7f", "ff", "ff", "ff", "80", "81", "82", "a0", "a1", "a2", "c2", "c3", "c4", "c4 82", "c5", "d8 20", "00", "01", "01", "18 01", "c2 41 01", "20", "38", "41 00", "42 01", "40", "61 61", "61 ff",
		"62 c3 a9", "61 c3", "63 e0", "63 61 ff", "60", "f4", "f5", "f6", "f7", "e0", "f8 20", "f8 1f", "f8", "f9 3c 00", "fa 3f 80 00 00", "fb", "1c", "3d", "5e", "7d", "9c", "bd", "de", "fd", "1f", "3f", "df", "59 10 01", "79 ff ff", "5b", "1a 00 0f 42 40", "1a 00 0f 42 41",
		"bf 01 02 01", "bf 61 61 c2 40 7f 61 61 ff", "9b ff ff ff ff ff ff ff ff", "bb ff ff ff ff ff ff ff ff",
	}
	var b []byte
	for range c.below(14) {
		b = append(b, unhex(list[c.below(len(list))])...)
	}
	return b
}
