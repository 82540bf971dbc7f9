package conv_test

import (
	"encoding/hex"
	"fmt"
	"math"
	"math/big"
	"regexp"
	"slices"
	"strings"
	"testing"

	"gantline/api"
	"gantline/conv"
	"gantline/jsay"
	"gantline/tree"
)

// The document's bounds.
const (
	mostText   = 4096
	mostNodes  = 1024
	mostDepth  = 24
	mostDigits = 800
	mostExp    = 2000
	mostLosses = 2048
)

// modelNumber is what comes of a Float, by the library's rational numbers; false, if the bits are no number's.
func modelNumber(bits uint64) (api.Node, bool) {
	x := math.Float64frombits(bits)
	if math.IsNaN(x) || math.IsInf(x, 0) {
		return nullNode(), false
	}
	exact := new(big.Rat).SetFloat64(x)
	if exact.IsInt() {
		return bigNode(exact.Num()), true
	}
	// The denominator is a power of 2, and what stands above it is odd: times as many fives it does not end with 0.
	halves := exact.Denom().BitLen() - 1
	fives := new(big.Int).Exp(big.NewInt(5), big.NewInt(int64(halves)), nil)
	n := bigNode(fives.Mul(fives, exact.Num()))
	return decNode(n.Neg, n.Digits, -halves), true
}

// modelTell is what the document's words make of a tree, and its losses, whatever layer 8 says of it.
func modelTell(n api.Node) (api.Node, []api.Loss) {
	switch n.Kind {
	case api.Float:
		told, ok := modelNumber(n.N)
		if !ok {
			return told, losses(lossOf(api.LossNan, n.N))
		}
		return told, losses(lossOf(api.LossFloat, n.N))
	case api.Bytes:
		return textNode(hex.EncodeToString(n.Bytes)), losses(lossOf(api.LossBytes, 0))
	case api.Simple:
		return nullNode(), losses(lossOf(api.LossSimple, n.N))
	case api.Tag:
		told, inside := modelTell(n.Kids[0])
		return told, append(losses(lossOf(api.LossTag, n.N)), inside...)
	case api.Array:
		return modelArray(n.Kids)
	case api.Map:
		return modelMap(n)
	}
	return n, nil
}

// modelArray is what comes of an Array.
func modelArray(kids []api.Node) (api.Node, []api.Loss) {
	told, all := arrayNode(), losses()
	for i, kid := range kids {
		one, inside := modelTell(kid)
		told.Kids = append(told.Kids, one)
		all = append(all, led(inside, i)...)
	}
	return told, all
}

// modelMap is what comes of a Map: of one with other Keys what comes of an Array of its pairs, behind one more loss.
func modelMap(n api.Node) (api.Node, []api.Loss) {
	texts := 0
	for _, key := range n.Keys {
		if key.Kind == api.Text {
			texts++
		}
	}
	if texts < len(n.Keys) {
		pairs := arrayNode()
		for i := range n.Keys {
			pairs.Kids = append(pairs.Kids, arrayNode(n.Keys[i], n.Kids[i]))
		}
		told, inside := modelTell(pairs)
		return told, append(losses(lossOf(api.LossMap, 0)), inside...)
	}
	told, all := api.Node{Kind: api.Map, Keys: n.Keys}, losses()
	for i, kid := range n.Kids {
		one, inside := modelTell(kid)
		told.Kids = append(told.Kids, one)
		all = append(all, led(inside, 2*i+1)...)
	}
	return told, all
}

// modelToJson is what the document asks of ToJson.
func modelToJson(n api.Node) (api.Node, []api.Loss, api.Errno) {
	if why := tree.Check(n); why != api.OK {
		return api.Node{}, nil, why
	}
	told, all := modelTell(n)
	if why := tree.Check(told); why != api.OK {
		return api.Node{}, nil, why
	}
	return told, all, api.OK
}

// modelTaken is what a loss took of a node; false, if it can not have been.
func modelTaken(n api.Node, l api.Loss) (api.Node, bool) {
	switch l.Kind {
	case api.LossFloat:
		told, ok := modelNumber(l.N)
		return floatNode(l.N), ok && told.Kind == n.Kind && told.Neg == n.Neg && told.Digits == n.Digits && told.Exp == n.Exp
	case api.LossNan:
		_, ok := modelNumber(l.N)
		return floatNode(l.N), !ok && n.Kind == api.Null
	case api.LossBytes:
		b, _ := hex.DecodeString(n.Text)
		return bytesNode(b...), n.Kind == api.Text && regexp.MustCompile(`\A([0-9a-f][0-9a-f])*\z`).MatchString(n.Text)
	case api.LossTag:
		return tagNode(l.N, n), true
	case api.LossMap:
		pairs, ok := mapNode(), n.Kind == api.Array
		for _, pair := range n.Kids {
			if !ok || pair.Kind != api.Array || len(pair.Kids) != 2 {
				return api.Node{}, false
			}
			pairs.Keys, pairs.Kids = append(pairs.Keys, pair.Kids[0]), append(pairs.Kids, pair.Kids[1])
		}
		return pairs, ok
	case api.LossSimple:
		return simpleNode(l.N), n.Kind == api.Null
	}
	return api.Node{}, false
}

// parts are a node's Keys and Kids in the order in which a path counts them.
func parts(n api.Node) []api.Node {
	if n.Kind != api.Map {
		return slices.Clone(n.Kids)
	}
	var all []api.Node
	for i := range n.Keys {
		all = append(all, n.Keys[i], n.Kids[i])
	}
	return all
}

// modelBack gives back one loss, at the end of a path.
func modelBack(n api.Node, path []int, l api.Loss) (api.Node, api.Errno) {
	if len(path) == 0 {
		was, ok := modelTaken(n, l)
		if !ok {
			return api.Node{}, api.ErrArg
		}
		return was, api.OK
	}
	inside := parts(n)
	if path[0] < 0 || path[0] >= len(inside) {
		return api.Node{}, api.ErrPath
	}
	x, why := modelBack(inside[path[0]], path[1:], l)
	if why != api.OK {
		return api.Node{}, why
	}
	inside[path[0]] = x
	if n.Kind == api.Map {
		return mapNode(inside...), api.OK
	}
	n.Kids = inside
	return n, api.OK
}

// modelRestore is what the document asks of Restore.
func modelRestore(n api.Node, l []api.Loss) (api.Node, api.Errno) {
	why := tree.Check(n)
	if why == api.OK && len(l) > mostLosses {
		why = api.ErrMany
	}
	for i := len(l) - 1; i >= 0 && why == api.OK; i-- {
		n, why = modelBack(n, l[i].Path, l[i])
	}
	if why == api.OK {
		why = tree.Check(n)
	}
	if why != api.OK {
		return api.Node{}, why
	}
	return n, api.OK
}

func nullNode() api.Node { return api.Node{Kind: api.Null} }

func boolNode(n uint64) api.Node { return api.Node{Kind: api.Bool, N: n} }

func intNode(neg bool, digits string) api.Node {
	return api.Node{Kind: api.Int, Neg: neg, Digits: digits}
}

func bigNode(n *big.Int) api.Node { return intNode(n.Sign() < 0, new(big.Int).Abs(n).String()) }

func num(n int64) api.Node { return bigNode(big.NewInt(n)) }

func decNode(neg bool, digits string, exp int) api.Node {
	return api.Node{Kind: api.Dec, Neg: neg, Digits: digits, Exp: exp}
}

func floatNode(bits uint64) api.Node { return api.Node{Kind: api.Float, N: bits} }

// float is the Float of one of the library's floats.
func float(x float64) api.Node { return floatNode(math.Float64bits(x)) }

func textNode(s string) api.Node { return api.Node{Kind: api.Text, Text: s} }

func bytesNode(b ...byte) api.Node { return api.Node{Kind: api.Bytes, Bytes: b} }

func arrayNode(kids ...api.Node) api.Node { return api.Node{Kind: api.Array, Kids: kids} }

// mapNode is a Map of Keys and Kids by turns.
func mapNode(pairs ...api.Node) api.Node {
	n := api.Node{Kind: api.Map}
	for i, x := range pairs {
		if i%2 == 0 {
			n.Keys = append(n.Keys, x)
		} else {
			n.Kids = append(n.Kids, x)
		}
	}
	return n
}

func tagNode(tag uint64, kid api.Node) api.Node {
	return api.Node{Kind: api.Tag, N: tag, Kids: []api.Node{kid}}
}

func simpleNode(n uint64) api.Node { return api.Node{Kind: api.Simple, N: n} }

// row is an Array of a node so many times.
func row(n api.Node, count int) api.Node { return arrayNode(slices.Repeat([]api.Node{n}, count)...) }

// within is a node in so many Arrays.
func within(n api.Node, arrays int) api.Node {
	for range arrays {
		n = arrayNode(n)
	}
	return n
}

// numbered is a Map of so many pairs, whose Keys are numbers.
func numbered(pairs int, kid api.Node) api.Node {
	n := mapNode()
	for i := range pairs {
		n.Keys, n.Kids = append(n.Keys, num(int64(i))), append(n.Kids, kid)
	}
	return n
}

// pairsOf is what comes of numbered.
func pairsOf(pairs int, kid api.Node) api.Node {
	n := arrayNode()
	for i := range pairs {
		n.Kids = append(n.Kids, arrayNode(num(int64(i)), kid))
	}
	return n
}

func losses(all ...api.Loss) []api.Loss { return all }

func lossOf(kind int, n uint64, path ...int) api.Loss { return api.Loss{Path: path, Kind: kind, N: n} }

func lossFloat(x float64, path ...int) api.Loss {
	return lossOf(api.LossFloat, math.Float64bits(x), path...)
}

func lossBytes(path ...int) api.Loss { return lossOf(api.LossBytes, 0, path...) }

func lossTag(n uint64, path ...int) api.Loss { return lossOf(api.LossTag, n, path...) }

func lossMap(path ...int) api.Loss { return lossOf(api.LossMap, 0, path...) }

func lossSimple(n uint64, path ...int) api.Loss { return lossOf(api.LossSimple, n, path...) }

// led are losses whose Paths are reached by a number more.
func led(l []api.Loss, step int) []api.Loss {
	var all []api.Loss
	for _, one := range l {
		all = append(all, lossOf(one.Kind, one.N, append([]int{step}, one.Path...)...))
	}
	return all
}

// told is a tree in words.
func told(n api.Node) string {
	kinds := strings.Fields("Null Bool Int Dec Float Text Bytes Array Map Tag Simple")
	name := fmt.Sprint(n.Kind)
	if n.Kind >= 0 && n.Kind < len(kinds) {
		name = kinds[n.Kind]
	}
	s := fmt.Sprintf("%s(%x %t %s %d %q % x", name, n.N, n.Neg, n.Digits, n.Exp, n.Text, n.Bytes)
	for _, key := range n.Keys {
		s += " key " + told(key)
	}
	for _, kid := range n.Kids {
		s += " " + told(kid)
	}
	return s + ")"
}

// small is a tree in words, for a message of a test.
func small(n api.Node) string {
	if !tree.Few(n) {
		return "a tree that is not few"
	}
	s := told(n)
	if len(s) > 900 {
		return s[:450] + " .. " + s[len(s)-450:]
	}
	return s
}

// toldLosses are losses in words: those of two lists are alike, if and only if the lists are the same.
func toldLosses(l []api.Loss) string {
	var s strings.Builder
	for _, one := range l {
		fmt.Fprintf(&s, "%v %d %x; ", one.Path, one.Kind, one.N)
	}
	return s.String()
}

// expectTold holds what comes of a tree, and what follows of it: that it can be told in JSON, that it has no losses if it could be told before, and that the tree is given back.
func expectTold(t *testing.T, n, want api.Node, lost ...api.Loss) {
	t.Helper()
	got, l, why := conv.ToJson(n)
	if why != api.OK || !tree.Same(got, want) || toldLosses(l) != toldLosses(lost) {
		t.Fatalf("ToJson(%s) is %s, %s, %v: not %s, %s", small(n), small(got), toldLosses(l), why, small(want), toldLosses(lost))
	}
	if !jsay.Can(got) {
		t.Fatalf("%s can not be told in JSON", small(got))
	}
	if jsay.Can(n) != (len(l) == 0) {
		t.Fatalf("%s: can be told %t, with the losses %s", small(n), jsay.Can(n), toldLosses(l))
	}
	if again, more, why := conv.ToJson(got); why != api.OK || len(more) != 0 || !tree.Same(again, got) {
		t.Fatalf("ToJson(%s) is %s, %s, %v", small(got), small(again), toldLosses(more), why)
	}
	expectBack(t, got, n, l...)
}

// expectNone holds the error of a tree that is refused, and that there is nothing beside it.
func expectNone(t *testing.T, n api.Node, want api.Errno) {
	t.Helper()
	got, l, why := conv.ToJson(n)
	if why != want || told(got) != told(api.Node{}) || len(l) != 0 {
		t.Fatalf("ToJson(%s) is %s, %s, %v: not %v", small(n), small(got), toldLosses(l), why, want)
	}
}

// expectBack holds the tree that losses are given back to.
func expectBack(t *testing.T, n, want api.Node, lost ...api.Loss) {
	t.Helper()
	if got, why := conv.Restore(n, lost); why != api.OK || !tree.Same(got, want) {
		t.Fatalf("Restore(%s, %s) is %s, %v: not %s", small(n), toldLosses(lost), small(got), why, small(want))
	}
}

// expectError holds the error of losses that are refused, and that there is nothing beside it.
func expectError(t *testing.T, n api.Node, want api.Errno, lost ...api.Loss) {
	t.Helper()
	if got, why := conv.Restore(n, lost); why != want || told(got) != told(api.Node{}) {
		t.Fatalf("Restore(%s, %.500s) is %s, %v: not %v", small(n), toldLosses(lost), small(got), why, want)
	}
}

// expectModel holds ToJson against the model, and is the error that the model asks for.
func expectModel(t *testing.T, n api.Node) api.Errno {
	t.Helper()
	want, l, why := modelToJson(n)
	if why != api.OK {
		expectNone(t, n, why)
	} else {
		expectTold(t, n, want, l...)
	}
	return why
}

// expectModelBack holds Restore against the model, and is the error that the model asks for.
func expectModelBack(t *testing.T, n api.Node, l []api.Loss) api.Errno {
	t.Helper()
	want, why := modelRestore(n, l)
	if why != api.OK {
		expectError(t, n, why, l...)
	} else {
		expectBack(t, n, want, l...)
	}
	return why
}

// chance is a row of numbers that look like chance, the same ones each time.
type chance uint64

func (c *chance) next() uint64 {
	*c ^= *c << 13
	*c ^= *c >> 7
	*c ^= *c << 17
	return uint64(*c)
}

func (c *chance) below(n int) int { return int(c.next() % uint64(n)) }

func (c *chance) of(list ...string) string { return list[c.below(len(list))] }

// number is some number of 64 bits, more often a small one.
func (c *chance) number() uint64 { return c.next() >> c.below(64) }

// some are a few bytes.
func (c *chance) some(most int) []byte {
	b := make([]byte, c.below(most+1))
	for i := range b {
		b[i] = byte(c.next())
	}
	return b
}

// words is a text, at times one of digits of base 16.
func (c *chance) words() string {
	list := []string{"", "a", "b", "ab", "00", "ff", "0A", "\u00e9", "\u20ac", "\x00", "7f10", "g0", strings.Repeat("c", 22)}
	return c.of(list...) + c.of(list...)
}

// bits are those of a Float: of any, of a whole number, of few bits, or of no number.
func (c *chance) bits() uint64 {
	switch c.below(5) {
	case 0:
		return math.Float64bits(float64(c.below(2000) - 1000))
	case 1:
		return math.Float64bits(float64(math.Float32frombits(uint32(c.next()))))
	case 2:
		return c.next() | 2047<<52
	case 3:
		// Numbers whose last bits are near to 1.
		return c.next()<<63 | uint64(1000+c.below(80))<<52 | c.next()>>12<<c.below(52)&(1<<52-1)
	}
	return c.next()
}

// leaf is a node without others.
func (c *chance) leaf() api.Node {
	switch c.below(10) {
	case 0:
		return nullNode()
	case 1:
		return boolNode(uint64(c.below(2)))
	case 2:
		return simpleNode([]uint64{0, 19, 23, 32, 255, uint64(c.below(20)), uint64(32 + c.below(224))}[c.below(7)])
	case 3:
		return decNode(c.below(2) == 0, fmt.Sprint(c.number()/10*10+1), -1-c.below(mostExp))
	case 4, 5:
		return floatNode(c.bits())
	case 6:
		return textNode(c.words())
	case 7:
		return bytesNode(c.some(9)...)
	}
	return num(int64(c.number()))
}

// tree is a tree that may be, of at most so many nodes within one another.
func (c *chance) tree(depth int) api.Node {
	if depth < 2 || c.below(4) == 0 {
		return c.leaf()
	}
	n := arrayNode()
	texts := c.below(2) == 0
	switch c.below(5) {
	case 0:
		return tagNode(c.number(), c.tree(depth-1))
	case 1, 2, 3:
		n.Kind = api.Map
	}
	for range c.below(5) {
		key := c.tree(depth - 1)
		if texts {
			key = textNode(c.words())
		}
		isKey := func(k api.Node) bool { return tree.Same(k, key) }
		if n.Kind == api.Map && !slices.ContainsFunc(n.Keys, isKey) {
			n.Keys = append(n.Keys, key)
		}
		n.Kids = append(n.Kids, c.tree(depth-1))
	}
	if n.Kind == api.Map {
		n.Kids = n.Kids[:len(n.Keys)]
	}
	return n
}

// pairs is an Array of a few pairs, whose Keys are often the same.
func (c *chance) pairs() api.Node {
	n := arrayNode()
	for range c.below(4) {
		n.Kids = append(n.Kids, arrayNode([]api.Node{num(1), textNode("01"), nullNode()}[c.below(3)], c.tree(2)))
	}
	return n
}

// broad is an Array of small trees, of so many nodes or a few more.
func (c *chance) broad(size int) api.Node {
	n := arrayNode()
	for tree.Size(n) < size {
		n.Kids = append(n.Kids, c.tree(2+c.below(3)))
	}
	return n
}

// deep is a tree of so many nodes within one another at least.
func (c *chance) deep(depth int) api.Node {
	n := c.tree(3)
	for tree.Deep(n) < depth {
		n = []api.Node{arrayNode(n), tagNode(c.number(), n), mapNode(textNode("k"), n), mapNode(c.leaf(), n), mapNode(n, c.leaf())}[c.below(8)%5]
	}
	return n
}

// wrong is a node that may not be.
func (c *chance) wrong() api.Node {
	return []api.Node{
		textNode("\xFF"), intNode(false, "01"), intNode(true, "0"), decNode(false, "10", -1), decNode(false, "1", 2), boolNode(2), simpleNode(24), {Kind: 11}, {Kind: -1}, {Kind: api.Null, Text: "a"},
		mapNode(c.leaf(), nullNode(), c.leaf()), mapNode(num(1), c.leaf(), num(1), c.leaf()), {Kind: api.Tag}, {Kind: api.Tag, Kids: make([]api.Node, 2)}, {Kind: api.Bytes, Bytes: make([]byte, mostText+1)},
	}[c.below(15)]
}

// nodesOf are the places of all nodes in a tree.
func nodesOf(n *api.Node) []*api.Node {
	all := []*api.Node{n}
	for i := range n.Keys {
		all = append(all, nodesOf(&n.Keys[i])...)
	}
	for i := range n.Kids {
		all = append(all, nodesOf(&n.Kids[i])...)
	}
	return all
}

// put puts a node at some place of a tree.
func (c *chance) put(n *api.Node, x api.Node) {
	all := nodesOf(n)
	*all[c.below(len(all))] = x
}

// path is a path in a tree, which now and then leads nowhere.
func (c *chance) path(n api.Node) []int {
	var path []int
	for c.below(4) > 0 {
		inside := parts(n)
		if len(inside) == 0 {
			break
		}
		step := c.below(len(inside))
		path, n = append(path, step), inside[step]
	}
	if c.below(12) == 0 {
		path = append(path, c.below(5)-1)
	}
	return path
}

// loss is some loss, at times one that fits to what stands at its Path in a tree.
func (c *chance) loss(n api.Node) api.Loss {
	one := lossOf(c.below(8), c.number(), c.path(n)...)
	at, _ := tree.At(n, one.Path)
	switch at.Kind {
	case api.Null:
		one.Kind = []int{api.LossNan, api.LossSimple, one.Kind}[c.below(3)]
		one.N = []uint64{uint64(c.below(40)), c.next() | 2047<<52}[c.below(2)]
	case api.Text:
		one.Kind = []int{api.LossBytes, one.Kind}[c.below(2)]
	case api.Array:
		one.Kind = []int{api.LossMap, one.Kind}[c.below(2)]
	case api.Int:
		x, _ := new(big.Float).SetString(at.Digits)
		near, _ := x.Float64()
		one.Kind, one.N = []int{api.LossFloat, one.Kind}[c.below(2)], math.Float64bits(near)
		if at.Neg != (c.below(9) == 0) {
			one.N ^= 1 << 63
		}
	}
	return one
}

// turned are losses of which one is left out, doubled, moved or changed, or some more put in.
func (c *chance) turned(n api.Node, l []api.Loss) []api.Loss {
	l = slices.Clone(l)
	at := c.below(len(l) + 1)
	if at == len(l) || c.below(5) == 0 {
		return slices.Insert(l, at, c.loss(n))
	}
	one := &l[at]
	switch c.below(7) {
	case 0:
		return slices.Delete(l, at, at+1)
	case 1:
		return slices.Insert(l, at, *one)
	case 2:
		other := c.below(len(l))
		l[at], l[other] = l[other], l[at]
	case 3:
		one.Kind = c.below(9) - 1
	case 4:
		one.N ^= 1 << c.below(64)
	case 5:
		one.Path = c.path(n)
	case 6:
		one.Path = append(slices.Clone(one.Path), c.below(3))
	}
	return l
}
