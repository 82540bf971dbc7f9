package tree_test

import (
	"fmt"
	"math"
	"slices"
	"strings"
	"testing"
	"unsafe"

	"gantline/api"
	"gantline/tree"
)

// chance is a row of numbers that look like chance, the same ones each time.
type chance uint64

func (c *chance) next() uint64 {
	*c ^= *c << 13
	*c ^= *c >> 7
	*c ^= *c << 17
	return uint64(*c)
}

func (c *chance) below(n int) int { return int(c.next() % uint64(n)) }

func text(s string) api.Node            { return api.Node{Kind: api.Text, Text: s} }
func whole(s string) api.Node           { return api.Node{Kind: api.Int, Digits: s} }
func array(kids ...api.Node) api.Node   { return api.Node{Kind: api.Array, Kids: kids} }
func tag(n uint64, k api.Node) api.Node { return api.Node{Kind: api.Tag, N: n, Kids: []api.Node{k}} }
func number(neg bool, s string, exp int) api.Node {
	return api.Node{Kind: api.Dec, Neg: neg, Digits: s, Exp: exp}
}

// pairs is a Map of Keys and Kids by turns.
func pairs(nodes ...api.Node) api.Node {
	m := api.Node{Kind: api.Map}
	for i := 0; i < len(nodes); i += 2 {
		m.Keys = append(m.Keys, nodes[i])
		m.Kids = append(m.Kids, nodes[i+1])
	}
	return m
}

// broad is an Array of so many nodes in all.
func broad(nodes int) api.Node {
	return api.Node{Kind: api.Array, Kids: make([]api.Node, nodes-1)}
}

// chain are Arrays in one another, so many nodes in all.
func chain(nodes int) api.Node {
	n := array()
	for range nodes - 1 {
		n = array(n)
	}
	return n
}

// endless is a node that stands in itself, as a Kid or as a Key.
func endless(key bool) api.Node {
	list := make([]api.Node, 1)
	list[0] = api.Node{Kind: api.Array, Kids: list}
	if key {
		list[0] = api.Node{Kind: api.Map, Keys: list}
	}
	return list[0]
}

// doubled is a tree of 2^60 nodes and more, in which the same nodes stand twice in each list.
func doubled() api.Node {
	n := array()
	for range 60 {
		n = array(n, n)
	}
	return n
}

// notFew are trees that are not few, in all shapes.
func notFew() []api.Node {
	keys := api.Node{Keys: make([]api.Node, 1024)}
	half := pairs()
	half.Keys = make([]api.Node, 512)
	half.Kids = make([]api.Node, 512)
	late := broad(1024)
	late.Kids[1022] = array(api.Node{})
	return []api.Node{
		broad(1025), broad(1026), broad(100_000), chain(1025), chain(1026), chain(5000), endless(false), endless(true),
		doubled(), keys, half, late, array(text("a"), chain(1023)), {Kind: -1, Kids: make([]api.Node, 1024)},
		pairs(broad(512), broad(512)),
	}
}

// justFew are trees of just as many nodes as a tree that is few may have, and how deep they are.
func justFew() map[int]api.Node {
	keys := api.Node{Keys: make([]api.Node, 1023)}
	return map[int]api.Node{2: broad(1024), 1024: chain(1024), 1022: array(text("a"), chain(1021), text("b")), 3: array(broad(500), broad(523)), 4: array(array(keys.Keys[0], array(keys.Keys[:1020]...)))}
}

// told is a node in words: those of two nodes are alike, if and only if they are the same.
func told(n api.Node) string {
	s := fmt.Sprintf("(%d %d %t %q %d %q %x", n.Kind, n.N, n.Neg, n.Digits, n.Exp, n.Text, n.Bytes)
	for _, list := range [][]api.Node{n.Keys, n.Kids} {
		s += "["
		for _, k := range list {
			s += told(k)
		}
		s += "]"
	}
	return s + ")"
}

// place is a node of a tree, and the path that leads to it.
type place struct {
	path []int
	node api.Node
}

// places are all nodes of a tree in the document's order, with their paths (of Arrays, Tags and Maps).
func places(n api.Node, path []int) []place {
	all := []place{{path, n}}
	enter := func(k api.Node, step int) { all = append(all, places(k, append(slices.Clone(path), step))...) }
	switch n.Kind {
	case api.Array, api.Tag:
		for i, k := range n.Kids {
			enter(k, i)
		}
	case api.Map:
		for i := 0; i < len(n.Keys) || i < len(n.Kids); i++ {
			if i < len(n.Keys) {
				enter(n.Keys[i], 2*i)
			}
			if i < len(n.Kids) {
				enter(n.Kids[i], 2*i+1)
			}
		}
	}
	return all
}

// inside are the nodes of a node's Keys and Kids.
func inside(n api.Node) []api.Node { return slices.Concat(n.Keys, n.Kids) }

// sizeOf and deepOf are the document's words, without a bound.
func sizeOf(n api.Node) int {
	size := 1
	for _, k := range inside(n) {
		size += sizeOf(k)
	}
	return size
}

func deepOf(n api.Node) int {
	deep := 0
	for _, k := range inside(n) {
		deep = max(deep, deepOf(k))
	}
	return 1 + deep
}

// P8.1: sizes and depths of ordinary trees; nodes of Keys count as those of Kids do, whatever the Kind.
func TestSizeDeep(t *testing.T) {
	for _, c := range []struct {
		n          api.Node
		size, deep int
	}{
		{api.Node{}, 1, 1},
		{text("a"), 1, 1},
		{array(), 1, 1},
		{array(text("a")), 2, 2},
		{array(array(), array(array()), text("")), 5, 3},
		{pairs(text("a"), whole("1")), 3, 2},
		{pairs(array(array()), whole("1")), 4, 3},
		{pairs(whole("1"), array(array())), 4, 3},
		{tag(1, tag(2, text("a"))), 3, 3},
		{api.Node{Kind: 99, Keys: []api.Node{{}, {}}}, 3, 2},
		{api.Node{Kind: api.Text, Kids: []api.Node{array(api.Node{})}}, 3, 3},
		{chain(24), 24, 24},
		{chain(25), 25, 25},
	} {
		if !tree.Few(c.n) || tree.Size(c.n) != c.size || tree.Deep(c.n) != c.deep {
			t.Errorf("%s: few %t, size %d, deep %d", told(c.n), tree.Few(c.n), tree.Size(c.n), tree.Deep(c.n))
		}
	}
}

// P8.1, R1: 1024 nodes are few, 1025 are not, broad and deep; trees without an end are not.
func TestFewEdge(t *testing.T) {
	for deep, n := range justFew() {
		if !tree.Few(n) || tree.Size(n) != 1024 || tree.Deep(n) != deep {
			t.Errorf("depth %d: few %t, size %d, deep %d", deep, tree.Few(n), tree.Size(n), tree.Deep(n))
		}
	}
	for i, n := range notFew() {
		if tree.Few(n) || tree.Size(n) != 1025 || tree.Deep(n) != 1025 {
			t.Errorf("not few %d: few %t, size %d, deep %d", i, tree.Few(n), tree.Size(n), tree.Deep(n))
		}
	}
}

// full is a node with all fields.
func full() api.Node {
	return api.Node{Kind: 8, N: 7, Neg: true, Digits: "5", Exp: -3, Text: "t", Bytes: []byte{1, 2}, Keys: []api.Node{text("a"), text("b")}, Kids: []api.Node{whole("1"), array(text("c"))}}
}

// unlike are nodes that differ from full in one field each.
func unlike() []api.Node {
	var all []api.Node
	for _, turn := range []func(n *api.Node){
		func(n *api.Node) { n.Kind = 7 },
		func(n *api.Node) { n.Kind = -8 },
		func(n *api.Node) { n.N = 8 },
		func(n *api.Node) { n.N = 7 + 1<<63 },
		func(n *api.Node) { n.Neg = false },
		func(n *api.Node) { n.Digits = "05" },
		func(n *api.Node) { n.Digits = "" },
		func(n *api.Node) { n.Exp = 3 },
		func(n *api.Node) { n.Text = "T" },
		func(n *api.Node) { n.Text = "t\x00" },
		func(n *api.Node) { n.Bytes = []byte{1, 3} },
		func(n *api.Node) { n.Bytes = []byte{1} },
		func(n *api.Node) { n.Bytes = nil },
		func(n *api.Node) { n.Keys = n.Keys[:1] },
		func(n *api.Node) { n.Keys = nil },
		func(n *api.Node) { n.Keys[0].Text = "" },
		func(n *api.Node) { n.Keys[1].Text = "c" },
		func(n *api.Node) { n.Keys[0], n.Keys[1] = n.Keys[1], n.Keys[0] },
		func(n *api.Node) { n.Kids = n.Kids[:1] },
		func(n *api.Node) { n.Kids = append(n.Kids, api.Node{}) },
		func(n *api.Node) { n.Kids[0].Digits = "2" },
		func(n *api.Node) { n.Kids[1].Kids[0].N = 1 },
		func(n *api.Node) { n.Kids[1].Kids = nil },
		func(n *api.Node) { n.Keys, n.Kids = n.Kids, n.Keys },
	} {
		n := full()
		turn(&n)
		all = append(all, n)
	}
	return all
}

// P8.1: the same in all fields; each field counts, at every depth.
func TestSame(t *testing.T) {
	if !tree.Same(full(), full()) || !tree.Same(api.Node{}, api.Node{}) {
		t.Error("a node is not the same as itself")
	}
	for i, n := range unlike() {
		if tree.Same(n, full()) || tree.Same(full(), n) || tree.Same(array(n), array(full())) || tree.Same(pairs(n, text("")), pairs(full(), text(""))) {
			t.Errorf("unlike %d is the same", i)
		}
		if !tree.Same(n, n) {
			t.Errorf("unlike %d is not the same as itself", i)
		}
	}
}

// P8.1, R6: a list that is nil and one that is empty are the same.
func TestSameEmpty(t *testing.T) {
	empty := api.Node{Bytes: []byte{}, Keys: []api.Node{}, Kids: []api.Node{}}
	if !tree.Same(empty, api.Node{}) || !tree.Same(array(api.Node{}), array(empty)) {
		t.Error("nil and empty are not the same")
	}
	if e := tree.Check(empty); e != api.OK {
		t.Error("a Null with empty lists:", e)
	}
}

// P8.1: trees that are not few are the same as nothing, not even themselves.
func TestSameNotFew(t *testing.T) {
	for i, n := range notFew() {
		if tree.Same(n, n) || tree.Same(n, text("a")) || tree.Same(text("a"), n) || tree.Same(n, broad(1024)) {
			t.Errorf("not few %d is the same", i)
		}
	}
	for deep, n := range justFew() {
		if !tree.Same(n, n) {
			t.Errorf("few of depth %d is not the same as itself", deep)
		}
	}
}

// P8.2: nodes that may be, at the edges.
func TestCheckRight(t *testing.T) {
	many := strings.Repeat("9", 800)
	for _, n := range []api.Node{
		{}, {Kind: api.Bool}, {Kind: api.Bool, N: 1},
		whole("0"), whole("1"), whole("10"), whole(many), {Kind: api.Int, Neg: true, Digits: "10"}, {Kind: api.Int, Neg: true, Digits: many},
		number(false, "15", -1), number(true, "15", -1), number(false, "1", -2000), number(false, many, -1),
		number(false, "1", 800), number(false, "1", 2000), number(true, many, 1), number(false, "25", 799),
		{Kind: api.Float}, {Kind: api.Float, N: math.MaxUint64}, {Kind: api.Float, N: 0x7FF0000000000001},
		text(""), text("\x00é\U0010FFFF"), text(strings.Repeat("a", 4096)), text(strings.Repeat("é", 2048)),
		{Kind: api.Bytes}, {Kind: api.Bytes, Bytes: []byte{255, 0xC0}}, {Kind: api.Bytes, Bytes: make([]byte, 4096)},
		array(), array(api.Node{}, api.Node{}),
		pairs(), pairs(text("a"), text("a")), pairs(text("a"), text("x"), text("b"), text("x")), pairs(array(), array(), whole("1"), whole("1"), tag(0, array()), array()),
		tag(0, api.Node{}), tag(math.MaxUint64, text("a")),
		{Kind: api.Simple}, {Kind: api.Simple, N: 19}, {Kind: api.Simple, N: 23}, {Kind: api.Simple, N: 32}, {Kind: api.Simple, N: 255},
		chain(24), broad(1024), array(array(), chain(22), array()),
	} {
		if e := tree.Check(n); e != api.OK {
			t.Errorf("%.200s: %v", told(n), e)
		}
	}
}

// wrongNode is a node that may not be, and its fault.
type wrongNode struct {
	n   api.Node
	why api.Errno
}

// wrongNodes are nodes that have a fault of their own, at the edges.
func wrongNodes() []wrongNode {
	all := []wrongNode{
		{text(strings.Repeat("a", 4097)), api.ErrMany},
		{text(strings.Repeat("\xFF", 4097)), api.ErrMany},
		{text(strings.Repeat("é", 2049)), api.ErrMany},
		{api.Node{Kind: api.Bytes, Bytes: make([]byte, 4097)}, api.ErrMany},
		{text("\xFF"), api.ErrUtf}, {text("a\xC3"), api.ErrUtf}, {text("\xED\xA0\x80"), api.ErrUtf}, {text(strings.Repeat("a", 4095) + "\xC3"), api.ErrUtf},
	}
	for _, n := range []api.Node{
		{Kind: api.Int, Neg: true, Digits: "0"}, whole(""), whole("00"), whole("01"), {Kind: api.Int, Neg: true, Digits: "01"}, whole("-1"), whole("+1"), whole("1a"), whole(" 1"), whole(strings.Repeat("9", 801)),
		number(false, "0", 0), number(true, "0", 0), number(false, "0", -1), number(false, "", -1), number(false, "15", 0), number(false, "15", 1), number(true, "15", 1), number(false, "1", 799),
		number(false, "150", -1), number(false, "015", -1), number(false, "15", -2001), number(false, "15", 2001), number(false, "15", math.MinInt), number(false, "15", math.MaxInt),
		number(false, strings.Repeat("9", 801), -1), number(false, "1.5", 0), number(false, "x", -1),
	} {
		all = append(all, wrongNode{n, api.ErrNum})
	}
	for _, n := range []api.Node{
		{Kind: api.Bool, N: 2}, {Kind: api.Bool, N: math.MaxUint64},
		{Kind: api.Simple, N: 20}, {Kind: api.Simple, N: 21}, {Kind: api.Simple, N: 22}, {Kind: api.Simple, N: 24}, {Kind: api.Simple, N: 31}, {Kind: api.Simple, N: 256}, {Kind: api.Simple, N: math.MaxUint64},
		{Kind: api.Map, Keys: []api.Node{text("a")}}, {Kind: api.Map, Kids: []api.Node{text("a")}},
		{Kind: api.Map, Keys: []api.Node{text("a"), text("b")}, Kids: []api.Node{{}}}, {Kind: api.Map, Keys: []api.Node{text("a")}, Kids: []api.Node{{}, {}}},
		{Kind: api.Tag}, {Kind: api.Tag, N: 1, Kids: []api.Node{{}, {}}},
		{Kind: -1}, {Kind: 11}, {Kind: 100}, {Kind: math.MinInt}, {Kind: math.MaxInt},
	} {
		all = append(all, wrongNode{n, api.ErrKind})
	}
	return append(all, strayNodes()...)
}

// rightOf is a node of each Kind that may be.
func rightOf(kind int) api.Node {
	switch kind {
	case api.Int:
		return whole("7")
	case api.Dec:
		return number(false, "7", -1)
	case api.Text:
		return text("a")
	case api.Tag:
		return tag(3, api.Node{})
	}
	return api.Node{Kind: kind}
}

// fields of a node by their letters, and of each Kind those that it has.
const fields = "NSDETBKk"

func fieldsOf(kind int) string {
	return []string{"", "N", "SD", "SDE", "N", "T", "B", "k", "Kk", "Nk", "N"}[kind]
}

// strayNodes are nodes of each Kind with a field that should be zero and is not.
func strayNodes() []wrongNode {
	var all []wrongNode
	for kind := range 11 {
		for _, field := range fields {
			if strings.ContainsRune(fieldsOf(kind), field) {
				continue
			}
			n := rightOf(kind)
			switch field {
			case 'N':
				n.N = 1
			case 'S':
				n.Neg = true
			case 'D':
				n.Digits = "1"
			case 'E':
				n.Exp = -1
			case 'T':
				n.Text = "a"
			case 'B':
				n.Bytes = []byte{1}
			case 'K':
				n.Keys = []api.Node{{}}
			case 'k':
				n.Kids = []api.Node{{}}
			}
			all = append(all, wrongNode{n, api.ErrKind})
		}
	}
	return all
}

// P8.2: each fault of a node, at the root and everywhere within.
func TestCheckWrong(t *testing.T) {
	for _, w := range wrongNodes() {
		for i, n := range []api.Node{
			w.n, array(w.n), array(text("a"), w.n, text("b")), tag(1, w.n), pairs(w.n, text("a")), pairs(text("a"), w.n),
			array(array(pairs(text("a"), text("b"), tag(9, array(w.n)), text("c")))),
		} {
			if e := tree.Check(n); e != w.why {
				t.Errorf("%.200s in shape %d: %v, not %v", told(w.n), i, e, w.why)
			}
		}
	}
}

// P8.2, R1: of several faults of one node the one named first.
func TestCheckTwoOfOne(t *testing.T) {
	long := text(strings.Repeat("\xFF", 4097))
	long.N = 1
	bytes := api.Node{Kind: api.Bytes, Bytes: make([]byte, 4097), Keys: []api.Node{{}}}
	none := text("\xFF")
	none.Kids = []api.Node{{}}
	zero := api.Node{Kind: api.Int, Neg: true, Digits: "0", Text: "a"}
	bad := number(false, "15", 0)
	bad.N = 1
	other := api.Node{Kind: api.Null, Text: strings.Repeat("\xFF", 4097), Digits: "01"}
	foreign := text("a")
	foreign.Bytes = make([]byte, 4097)
	kids := array(text("\xFF"))
	kids.N = 1
	for _, w := range []wrongNode{{long, api.ErrMany}, {bytes, api.ErrMany}, {none, api.ErrUtf}, {zero, api.ErrNum}, {bad, api.ErrNum}, {other, api.ErrKind}, {foreign, api.ErrKind}, {kids, api.ErrKind}} {
		if e := tree.Check(w.n); e != w.why {
			t.Errorf("%.100s: %v, not %v", told(w.n), e, w.why)
		}
	}
}

// P8.2: too many nodes come ahead of too deep, and both ahead of all else.
func TestCheckBounds(t *testing.T) {
	for i, n := range notFew() {
		if e := tree.Check(n); e != api.ErrMany {
			t.Errorf("not few %d: %v", i, e)
		}
	}
	twin := pairs(text("a"), api.Node{}, text("a"), api.Node{})
	deepKey := pairs(chain(24), api.Node{})
	for i, n := range []api.Node{chain(25), chain(1024), array(text("\xFF"), chain(24)), array(twin, chain(24)), deepKey, pairs(text("a"), chain(24)), {Kind: 99, Kids: []api.Node{chain(24)}}} {
		if e := tree.Check(n); e != api.ErrDeep {
			t.Errorf("too deep %d: %v", i, e)
		}
	}
	for i, n := range []api.Node{chain(24), pairs(chain(23), api.Node{}), pairs(text("a"), chain(23))} {
		if e := tree.Check(n); e != api.OK {
			t.Errorf("just as deep %d: %v", i, e)
		}
	}
	wrong := broad(1025)
	wrong.Kids[0] = text("\xFF")
	if e := tree.Check(wrong); e != api.ErrMany {
		t.Error("not few, and wrong:", e)
	}
}

// P8.2: of several nodes with faults the first in order: each ahead of those in it, each Key ahead of its Kid, each pair ahead of the next.
func TestCheckOrder(t *testing.T) {
	utf, num, kind, many := text("\xFF"), whole("01"), api.Node{Kind: 11}, text(strings.Repeat("a", 4097))
	ok := text("a")
	stray := array(utf)
	stray.N = 1
	for i, w := range []wrongNode{
		{array(utf, num), api.ErrUtf}, {array(num, utf), api.ErrNum}, {array(ok, kind, many), api.ErrKind},
		{stray, api.ErrKind}, {array(stray, num), api.ErrKind}, {array(array(ok, utf), num), api.ErrUtf},
		{pairs(utf, num), api.ErrUtf}, {pairs(num, utf), api.ErrNum},
		{pairs(ok, utf, num, ok), api.ErrUtf}, {pairs(ok, ok, num, utf), api.ErrNum},
		{pairs(array(ok, num), utf, kind, ok), api.ErrNum}, {pairs(ok, array(num), kind, utf), api.ErrNum},
		{array(pairs(ok, ok, text("b"), many), utf), api.ErrMany}, {tag(1, array(kind, many)), api.ErrKind},
	} {
		if e := tree.Check(w.n); e != w.why {
			t.Errorf("case %d: %v, not %v", i, e, w.why)
		}
	}
}

// P8.2: two Keys that are the same: side by side, far apart, deep within, as trees; behind all other faults, wherever those stand.
func TestCheckTwice(t *testing.T) {
	twin := pairs(text("a"), whole("1"), text("a"), whole("2"))
	far := pairs()
	for i := range 511 {
		far.Keys = append(far.Keys, whole(fmt.Sprint(i)))
		far.Kids = append(far.Kids, api.Node{})
	}
	if e := tree.Check(far); e != api.OK {
		t.Error("511 keys:", e)
	}
	far.Keys[510] = whole("0")
	deep := twin
	for range 22 {
		deep = array(deep)
	}
	key := func() api.Node { return array(pairs(text("x"), tag(1, api.Node{Kind: api.Bytes, Bytes: []byte{1}}))) }
	empty := pairs(array(), api.Node{}, api.Node{Kind: api.Array, Kids: []api.Node{}}, api.Node{})
	for i, n := range []api.Node{
		twin, far, deep, empty, pairs(key(), text("a"), key(), text("b")), pairs(twin, text("a")), pairs(text("b"), twin), array(text("a"), tag(1, twin)),
		pairs(text("a"), text("1"), text("b"), text("2"), text("c"), text("3"), text("b"), text("4")),
		pairs(whole("1"), text("1"), api.Node{}, text("2"), api.Node{}, text("3")),
	} {
		if e := tree.Check(n); e != api.ErrTwice {
			t.Errorf("twice %d: %v", i, e)
		}
		if e := tree.Check(array(n)); e != api.ErrTwice && tree.Deep(n) < 24 {
			t.Errorf("twice %d in an Array: %v", i, e)
		}
	}
	for i, w := range []wrongNode{
		{array(twin, text("\xFF")), api.ErrUtf}, {array(whole("01"), twin), api.ErrNum}, {pairs(twin, api.Node{Kind: 11}), api.ErrKind},
		{pairs(text("a"), text("x"), text("a"), text("\xFF")), api.ErrUtf}, {pairs(text("\xFF"), text("x"), text("\xFF"), text("y")), api.ErrUtf},
	} {
		if e := tree.Check(w.n); e != w.why {
			t.Errorf("twice and wrong %d: %v, not %v", i, e, w.why)
		}
	}
	neg := api.Node{Kind: api.Int, Neg: true, Digits: "1"}
	for i, n := range []api.Node{
		pairs(text("a"), twinless(), text("b"), twinless()), pairs(whole("1"), text(""), text("1"), text(""), neg, text(""), api.Node{Kind: api.Bytes, Bytes: []byte("1")}, text(""), number(false, "1", -1), text(""), tag(1, whole("1")), text("")),
		array(pairs(text("a"), text("x")), pairs(text("a"), text("x"))), pairs(pairs(text("a"), text("x")), text("a"), text("a"), text("b")),
	} {
		if e := tree.Check(n); e != api.OK {
			t.Errorf("no two alike %d: %v", i, e)
		}
	}
}

func twinless() api.Node { return pairs(text("a"), whole("1"), text("b"), whole("1")) }

// The document's example.
func TestExample(t *testing.T) {
	n := pairs(text("a"), array(whole("1")))
	if x, e := tree.At(n, []int{1, 0}); e != api.OK || told(x) != told(whole("1")) {
		t.Error("(1, 0):", told(x), e)
	}
	if x, e := tree.At(n, []int{0}); e != api.OK || told(x) != told(text("a")) {
		t.Error("(0):", told(x), e)
	}
}

// sample is a tree with a node of each shape that paths go through.
func sample() api.Node {
	return array(
		text("a"),
		tag(7, array(whole("1"), whole("2"))),
		pairs(text("k"), text("v"), array(text("in a key")), tag(1, text("in a kid")), whole("3"), api.Node{}),
		array(),
		pairs(),
	)
}

// P8.3: paths of nothing, into Arrays, Tags, Keys and Kids; those that lead nowhere.
func TestAt(t *testing.T) {
	n := sample()
	for _, c := range []struct {
		path []int
		want api.Node
	}{
		{nil, n}, {[]int{}, n}, {[]int{0}, n.Kids[0]}, {[]int{1}, n.Kids[1]}, {[]int{1, 0}, n.Kids[1].Kids[0]}, {[]int{1, 0, 1}, whole("2")},
		{[]int{2, 0}, text("k")}, {[]int{2, 1}, text("v")}, {[]int{2, 2}, array(text("in a key"))}, {[]int{2, 2, 0}, text("in a key")},
		{[]int{2, 3}, tag(1, text("in a kid"))}, {[]int{2, 3, 0}, text("in a kid")}, {[]int{2, 4}, whole("3")}, {[]int{2, 5}, api.Node{}}, {[]int{4}, pairs()},
	} {
		if x, e := tree.At(n, c.path); e != api.OK || told(x) != told(c.want) {
			t.Errorf("%v: %s %v", c.path, told(x), e)
		}
	}
	for _, path := range wrongPaths() {
		if x, e := tree.At(n, path); e != api.ErrPath || told(x) != told(api.Node{}) {
			t.Errorf("At %v: %s %v", path, told(x), e)
		}
		if x, e := tree.Put(n, path, text("x")); e != api.ErrPath || told(x) != told(api.Node{}) {
			t.Errorf("Put %v: %s %v", path, told(x), e)
		}
	}
}

// wrongPaths are those that lead nowhere in sample.
func wrongPaths() [][]int {
	all := [][]int{{0, 0}, {0, 1}, {1, 1}, {1, 0, 2}, {1, 0, 0, 0}, {2, 6}, {2, 7}, {3, 0}, {4, 0}, {4, 1}, {2, 5, 0}, {2, 0, 0}, {2, 2, 1}, {2, 3, 1}, {5}, {5, 0}, {-1, 0}, make([]int, 5000)}
	for _, ahead := range [][]int{{}, {1}, {1, 0}, {2}, {3}, {4}, {0}} {
		for _, step := range []int{-1, -2, -3, math.MinInt, math.MinInt + 1, math.MaxInt, math.MaxInt - 1, 1 << 32, 1<<32 + 1, 1 << 62} {
			all = append(all, append(slices.Clone(ahead), step))
		}
	}
	return all
}

// P8.3: a path needs no tree that may be: it goes by the Kind and by what lists there are.
func TestAtUnchecked(t *testing.T) {
	two := []api.Node{text("p"), text("q")}
	three := []api.Node{text("x"), text("y"), text("z")}
	keys := api.Node{Kind: api.Map, Keys: three, Kids: two}
	kids := api.Node{Kind: api.Map, Keys: two, Kids: three}
	double := api.Node{Kind: api.Tag, Keys: three, Kids: two}
	list := api.Node{Kind: api.Array, Keys: three, Kids: two}
	for _, c := range []struct {
		n    api.Node
		step int
		want string
	}{
		{keys, 4, "z"}, {keys, 3, "q"}, {keys, 5, ""}, {keys, 6, ""}, {kids, 5, "z"}, {kids, 2, "q"}, {kids, 4, ""}, {kids, 7, ""},
		{double, 1, "q"}, {double, 2, ""}, {list, 1, "q"}, {list, 2, ""},
	} {
		x, e := tree.At(c.n, []int{c.step})
		if c.want == "" && (e != api.ErrPath || told(x) != told(api.Node{})) || c.want != "" && (e != api.OK || told(x) != told(text(c.want))) {
			t.Errorf("%s at %d: %s %v", told(c.n), c.step, told(x), e)
		}
	}
	for kind := -1; kind <= 11; kind++ {
		n := api.Node{Kind: kind, Keys: two, Kids: two}
		_, e := tree.At(n, []int{0})
		through := kind == api.Array || kind == api.Map || kind == api.Tag
		if through != (e == api.OK) || !through && e != api.ErrPath {
			t.Errorf("through Kind %d: %v", kind, e)
		}
	}
}

// P8.3, R1: ErrMany comes ahead of ErrPath, of n and of x.
func TestNotFewPaths(t *testing.T) {
	isMany := func(n api.Node, e api.Errno) bool { return e == api.ErrMany && told(n) == told(api.Node{}) }
	for i, n := range notFew() {
		for _, path := range [][]int{nil, {0}, {-1}, {0, 0, 0, 0}, {1 << 40}} {
			if !isMany(tree.At(n, path)) || !isMany(tree.Put(n, path, text("x"))) || !isMany(tree.Put(sample(), path, n)) || !isMany(tree.Put(n, path, n)) {
				t.Errorf("not few %d at %v: no ErrMany", i, path)
			}
		}
	}
}

// P8.3: Put at the root, deep within, at a Key; what comes need neither be few nor be as layer 8 asks.
func TestPut(t *testing.T) {
	n := sample()
	x := pairs(text("new"), array())
	if p, e := tree.Put(n, nil, x); e != api.OK || told(p) != told(x) {
		t.Error("at the root:", told(p), e)
	}
	want := sample()
	want.Kids[2].Keys[1].Kids[0] = x
	if p, e := tree.Put(n, []int{2, 2, 0}, x); e != api.OK || told(p) != told(want) {
		t.Error("in a Key:", told(p), e)
	}
	want = sample()
	want.Kids[2].Keys[2] = text("k")
	p, e := tree.Put(n, []int{2, 4}, text("k"))
	if e != api.OK || told(p) != told(want) || tree.Check(p) != api.ErrTwice {
		t.Error("a Key that is there already:", told(p), e)
	}
	for deep, few := range justFew() {
		p, e := tree.Put(broad(1024), []int{7}, few)
		if e != api.OK || sizeOf(p) != 2047 || deepOf(p) != deep+1 || tree.Few(p) {
			t.Errorf("2047 nodes: %d of depth %d, %v", sizeOf(p), deepOf(p), e)
		}
	}
	if p, e := tree.Put(text("a"), nil, api.Node{Kind: 77, Text: "\xFF", Exp: 5}); e != api.OK || p.Kind != 77 || p.Text != "\xFF" || p.Exp != 5 {
		t.Error("a node that may not be:", told(p), e)
	}
}

// grow is a tree of about so many nodes that may be, with some of the wrong ones among them.
func (c *chance) grow(nodes, deep int, wrong []wrongNode) api.Node {
	if len(wrong) > 0 && c.below(40) == 0 {
		return wrong[c.below(len(wrong))].n
	}
	if nodes <= 1 || deep <= 1 {
		return c.leaf()
	}
	switch c.below(4) {
	case 0:
		return tag(c.next(), c.grow(nodes-1, deep-1, wrong))
	case 1:
		m := pairs()
		for _, part := range c.split(nodes - 1) {
			m.Keys = append(m.Keys, c.grow(part/3, deep-1, wrong))
			m.Kids = append(m.Kids, c.grow(part-part/3, deep-1, wrong))
		}
		return m
	}
	a := array()
	for _, part := range c.split(nodes - 1) {
		a.Kids = append(a.Kids, c.grow(part, deep-1, wrong))
	}
	return a
}

// split are parts that come to about n.
func (c *chance) split(n int) []int {
	var parts []int
	for n > 0 {
		part := 1 + c.below(n)
		if c.below(2) == 0 {
			part = 1 + c.below(min(n, 4))
		}
		parts = append(parts, part)
		n -= part
	}
	return parts
}

// leaf is a node that may be, with nothing in it; many of them are the same.
func (c *chance) leaf() api.Node {
	switch c.below(8) {
	case 0:
		return api.Node{Kind: api.Bool, N: c.next() % 2}
	case 1:
		return api.Node{Kind: api.Simple, N: 32 + c.next()%224}
	case 2:
		return number(c.below(2) == 0, fmt.Sprint(1+2*c.below(4)), -1-c.below(100))
	case 3:
		return api.Node{Kind: api.Float, N: c.next()}
	case 4:
		return api.Node{Kind: api.Bytes, Bytes: []byte(fmt.Sprint(c.below(500)))}
	case 5:
		return text(strings.Repeat("é", c.below(5)))
	}
	return whole(fmt.Sprint(c.below(3000)))
}

// checked is P8.2 in the document's words; own is the fault that a node has by itself, told by what the tests above list.
func checked(n api.Node, own map[string]api.Errno) api.Errno {
	if sizeOf(n) > 1024 {
		return api.ErrMany
	}
	if deepOf(n) > 24 {
		return api.ErrDeep
	}
	for _, p := range places(n, nil) {
		if why := own[told(p.node)]; why != api.OK {
			return why
		}
	}
	for _, p := range places(n, nil) {
		seen := map[string]bool{}
		for _, key := range p.node.Keys {
			if seen[told(key)] {
				return api.ErrTwice
			}
			seen[told(key)] = true
		}
	}
	return api.OK
}

// P8.1, P8.2: trees by chance, against the document's words.
func TestByChance(t *testing.T) {
	own := map[string]api.Errno{}
	wrong := wrongNodes()
	for _, w := range wrong {
		own[told(w.n)] = w.why
	}
	c := chance(8)
	seen := map[api.Errno]int{}
	for range 1000 {
		n := c.grow(1+c.below(1<<c.below(12)), 1+c.below(29), wrong[:c.below(2)*len(wrong)])
		for range c.below(3) * c.below(13) {
			n = tag(0, n)
		}
		size, deep := sizeOf(n), deepOf(n)
		if size > 1024 {
			size, deep = 1025, 1025
		}
		if tree.Size(n) != size || tree.Deep(n) != deep || tree.Few(n) != (size <= 1024) {
			t.Fatalf("size %d, deep %d, few %t, not %d, %d", tree.Size(n), tree.Deep(n), tree.Few(n), size, deep)
		}
		want := checked(n, own)
		seen[want]++
		if e := tree.Check(n); e != want {
			t.Fatalf("%s: %v, not %v", told(n), e, want)
		}
	}
	for _, why := range []api.Errno{api.OK, api.ErrMany, api.ErrDeep, api.ErrUtf, api.ErrNum, api.ErrKind, api.ErrTwice} {
		if seen[why] < 10 {
			t.Errorf("%v came only %d times", why, seen[why])
		}
	}
}

// isAhead tells whether a path begins with another.
func isAhead(ahead, path []int) bool {
	return len(ahead) <= len(path) && slices.Equal(ahead, path[:len(ahead)])
}

// P8.3, P8.4: what was put stands there, nothing else has turned, and what stood there, put back, gives the tree again.
func TestPutByChance(t *testing.T) {
	c := chance(84)
	wrong := wrongNodes()
	for range 300 {
		n := c.grow(1+c.below(60), 1+c.below(12), wrong[:c.below(2)*len(wrong)])
		x := c.grow(1+c.below(20), 5, wrong)
		before, put := told(n), told(x)
		all := places(n, nil)
		at := all[c.below(len(all))]
		p, e := tree.Put(n, at.path, x)
		if e != api.OK || told(n) != before || told(x) != put {
			t.Fatalf("%v: %v; n or x has turned: %t %t", at.path, e, told(n) != before, told(x) != put)
		}
		if there, e := tree.At(p, at.path); e != api.OK || told(there) != put {
			t.Fatalf("%v: %s stands there, %v", at.path, told(there), e)
		}
		if sizeOf(p) != sizeOf(n)-sizeOf(at.node)+sizeOf(x) {
			t.Fatalf("%v: %d nodes", at.path, sizeOf(p))
		}
		for _, other := range all {
			if isAhead(at.path, other.path) || isAhead(other.path, at.path) {
				continue
			}
			if there, e := tree.At(p, other.path); e != api.OK || told(there) != told(other.node) {
				t.Fatalf("put at %v, turned at %v: %s %v", at.path, other.path, told(there), e)
			}
		}
		if back, e := tree.Put(p, at.path, at.node); e != api.OK || told(back) != before {
			t.Fatalf("put back at %v: %s %v", at.path, told(back), e)
		}
	}
}

// P8.5: sameness turns round and goes on, also over trees that are not few.
func TestSameTurns(t *testing.T) {
	all := append(notFew(), unlike()...)
	all = append(all, full(), full(), sample(), sample(), api.Node{}, api.Node{Keys: []api.Node{}}, api.Node{Kids: []api.Node{}, Bytes: []byte{}})
	c := chance(85)
	for range 30 {
		all = append(all, c.grow(1+c.below(6), 3, nil))
	}
	same := make([][]bool, len(all))
	for i, a := range all {
		for j, b := range all {
			same[i] = append(same[i], tree.Same(a, b))
			if tree.Few(a) && tree.Few(b) && same[i][j] != (told(a) == told(b)) {
				t.Errorf("%d and %d: %t", i, j, same[i][j])
			}
		}
	}
	for i := range all {
		for j := range all {
			if same[i][j] != same[j][i] {
				t.Errorf("%d and %d do not turn round", i, j)
			}
			for k := range all {
				if same[i][j] && same[j][k] && !same[i][k] {
					t.Errorf("%d, %d and %d do not go on", i, j, k)
				}
			}
		}
	}
}

// P8.6: what stands in a tree that may be may be.
func TestWithinMayBe(t *testing.T) {
	c := chance(86)
	found := 0
	for range 400 {
		n := c.grow(1+c.below(80), 1+c.below(24), nil)
		if tree.Check(n) != api.OK {
			continue
		}
		for _, p := range places(n, nil) {
			x, e := tree.At(n, p.path)
			if e != api.OK || tree.Check(x) != api.OK {
				t.Fatalf("%s at %v: %v, %v", told(n), p.path, e, tree.Check(x))
			}
			found++
		}
	}
	if found < 3000 {
		t.Error("too few nodes were tried:", found)
	}
}

// spoil writes over all that a tree's lists hold, and into the room behind them.
func spoil(n *api.Node) {
	for _, list := range [][]api.Node{n.Keys[:cap(n.Keys)], n.Kids[:cap(n.Kids)]} {
		for i := range list {
			spoil(&list[i])
			list[i] = api.Node{Kind: 55, Text: "spoilt"}
		}
	}
	b := n.Bytes[:cap(n.Bytes)]
	for i := range b {
		b[i] = 0xEE
	}
}

// rich is a tree whose nodes have bytes in them at every depth, in lists with room behind them.
func rich() api.Node {
	leaf := func() api.Node {
		return api.Node{Kind: api.Bytes, Bytes: append(make([]byte, 0, 9), 1, 2, 3), Digits: "12", Text: "xyz"}
	}
	m := pairs(leaf(), array(leaf(), leaf()), array(leaf()), leaf())
	m.Keys = append(make([]api.Node, 0, 9), m.Keys...)
	m.Kids = append(make([]api.Node, 0, 9), m.Kids...)
	return array(m, leaf(), m)
}

// R4: what is answered may be written over, and turns neither what was handed in nor another answer, nor another part of itself.
func TestAnswersApart(t *testing.T) {
	n, x := rich(), rich()
	before := told(n)
	for _, p := range places(n, nil) {
		first, _ := tree.At(n, p.path)
		second, _ := tree.At(n, p.path)
		spoil(&first)
		if told(n) != before || told(second) != told(p.node) {
			t.Fatalf("At %v shares its answer", p.path)
		}
		put, _ := tree.Put(n, p.path, x)
		again, _ := tree.Put(n, p.path, x)
		want := told(again)
		spoil(&put)
		if told(n) != before || told(x) != before || told(again) != want {
			t.Fatalf("Put at %v shares its answer", p.path)
		}
	}
	// The same lists stand twice in rich: in the answer each has its own.
	all, _ := tree.Put(n, []int{1}, n)
	kept := told(all.Kids[2])
	spoil(&all.Kids[0])
	spoil(&all.Kids[1])
	if told(all.Kids[2]) != kept || told(n) != before {
		t.Error("two parts of one answer share a list")
	}
}

// R4: the answer's texts are new memory, too.
func TestTextsApart(t *testing.T) {
	digits, words := strings.Repeat("1", 50), strings.Repeat("a", 50)
	n := array(api.Node{Kind: api.Text, Text: words, Digits: digits})
	at, _ := tree.At(n, []int{0})
	put, _ := tree.Put(n, []int{0}, n.Kids[0])
	other, _ := tree.Put(array(n, n), []int{0}, n)
	for _, x := range []api.Node{at, put.Kids[0], other.Kids[0].Kids[0], other.Kids[1].Kids[0]} {
		if x.Text != words || x.Digits != digits || unsafe.StringData(x.Text) == unsafe.StringData(words) || unsafe.StringData(x.Digits) == unsafe.StringData(digits) {
			t.Error("a text of the answer lies where the one handed in lies")
		}
	}
}

// R3, R4: no call turns what it is handed, neither the trees, nor the room behind their lists, nor the path.
func TestHandedIn(t *testing.T) {
	n, x := rich(), rich()
	behind := n.Kids[0].Keys[:9]
	behind[5] = text("behind")
	path := append(make([]int, 0, 9), 0, 3, 1)
	path[:9][4] = 44
	before := told(n)
	for range 2 {
		p, e := tree.Put(n, path[:1], x)
		a, f := tree.At(n, path[:1])
		if e != api.OK || f != api.OK || told(p.Kids[0]) != before || told(a) != told(n.Kids[0]) {
			t.Error("another answer:", e, f)
		}
		tree.At(n, path)
		tree.Put(n, path, x)
		tree.Check(n)
		tree.Same(n, x)
	}
	if told(n) != before || told(x) != before || behind[5].Text != "behind" || behind[6].Text != "" || !slices.Equal(path[:9], []int{0, 3, 1, 0, 44, 0, 0, 0, 0}) {
		t.Error("something that was handed in has turned")
	}
}
