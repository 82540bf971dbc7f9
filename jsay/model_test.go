package jsay_test

import (
	"bytes"
	"encoding/json"
	"fmt"
	"slices"
	"strings"
	"testing"

	"gantline/api"
	"gantline/jread"
	"gantline/jsay"
	"gantline/tree"
)

// The document's bounds.
const (
	mostBytes  = 4096
	mostNodes  = 1024
	mostDepth  = 24
	mostDigits = 800
)

// lowSigns are the document's escapes of the characters below 32, in their order.
const lowSigns = `\u0000 \u0001 \u0002 \u0003 \u0004 \u0005 \u0006 \u0007 \b \t \n \u000b \f \r \u000e \u000f ` +
	`\u0010 \u0011 \u0012 \u0013 \u0014 \u0015 \u0016 \u0017 \u0018 \u0019 \u001a \u001b \u001c \u001d \u001e \u001f`

// modelString is a text as a string of JSON.
func modelString(s string) string {
	signs := []string{`"`, `\"`, `\`, `\\`}
	for i, sign := range strings.Fields(lowSigns) {
		signs = append(signs, string(rune(i)), sign)
	}
	return `"` + strings.NewReplacer(signs...).Replace(s) + `"`
}

// modelText is what the document's words ask of a tree that can be told, however long.
func modelText(n api.Node) string {
	minus := map[bool]string{true: "-"}[n.Neg]
	var parts []string
	for i, kid := range n.Kids {
		key := ""
		if n.Kind == api.Map {
			key = modelText(n.Keys[i]) + ":"
		}
		parts = append(parts, key+modelText(kid))
	}
	row := strings.Join(parts, ",")
	return map[int]string{
		api.Null:  "null",
		api.Bool:  fmt.Sprint(n.N == 1),
		api.Int:   minus + n.Digits,
		api.Dec:   fmt.Sprintf("%s%se%d", minus, n.Digits, n.Exp),
		api.Text:  modelString(n.Text),
		api.Array: "[" + row + "]",
		api.Map:   "{" + row + "}",
	}[n.Kind]
}

// modelCan tells whether a tree that may be can be told.
func modelCan(n api.Node) bool {
	isOther := func(key api.Node) bool { return key.Kind != api.Text }
	isWrong := func(kid api.Node) bool { return !modelCan(kid) }
	told := []int{api.Null, api.Bool, api.Int, api.Dec, api.Text, api.Array, api.Map}
	return slices.Contains(told, n.Kind) && !slices.ContainsFunc(n.Keys, isOther) && !slices.ContainsFunc(n.Kids, isWrong)
}

func nullNode() api.Node { return api.Node{Kind: api.Null} }

func boolNode(n uint64) api.Node { return api.Node{Kind: api.Bool, N: n} }

func intNode(neg bool, digits string) api.Node {
	return api.Node{Kind: api.Int, Neg: neg, Digits: digits}
}

func decNode(neg bool, digits string, exp int) api.Node {
	return api.Node{Kind: api.Dec, Neg: neg, Digits: digits, Exp: exp}
}

func floatNode(n uint64) api.Node { return api.Node{Kind: api.Float, N: n} }

func textNode(s string) api.Node { return api.Node{Kind: api.Text, Text: s} }

func bytesNode(s string) api.Node { return api.Node{Kind: api.Bytes, Bytes: []byte(s)} }

func arrayNode(kids ...api.Node) api.Node { return api.Node{Kind: api.Array, Kids: kids} }

func tagNode(n uint64, kid api.Node) api.Node {
	return api.Node{Kind: api.Tag, N: n, Kids: []api.Node{kid}}
}

func simpleNode(n uint64) api.Node { return api.Node{Kind: api.Simple, N: n} }

// mapNode is a Map of Keys, each with its Kid behind it; a Key may be a text alone.
func mapNode(members ...any) api.Node {
	n := api.Node{Kind: api.Map}
	for i := 0; i < len(members); i += 2 {
		key, ok := members[i].(api.Node)
		if !ok {
			key = textNode(members[i].(string))
		}
		n.Keys = append(n.Keys, key)
		n.Kids = append(n.Kids, members[i+1].(api.Node))
	}
	return n
}

// row is an Array of one node many times.
func row(n api.Node, count int) api.Node { return arrayNode(slices.Repeat([]api.Node{n}, count)...) }

// within is a node in Arrays and Maps by turns, so many of them.
func within(n api.Node, depth int) api.Node {
	for i := range depth {
		if i%2 == 0 {
			n = arrayNode(n)
		} else {
			n = mapNode("k", n)
		}
	}
	return n
}

// withinKids is a node, and that node at many places of other trees: as a Kid, ahead, between and behind others, and deep.
func withinKids(n api.Node) []api.Node {
	one := intNode(false, "1")
	return []api.Node{
		n, arrayNode(n), arrayNode(n, one), arrayNode(one, n), arrayNode(one, n, one),
		mapNode("a", n), mapNode("a", n, "b", one), mapNode("a", one, "b", n), mapNode("a", one, "b", n, "c", one),
		arrayNode(arrayNode(), arrayNode(one, arrayNode(n)), mapNode()), mapNode("a", mapNode("b", mapNode("c", n), "d", one)),
		within(n, 10), within(n, 11), within(n, mostDepth-3),
	}
}

// small is a tree or a text for a message of a test.
func small(x any) string {
	s := fmt.Sprintf("%+v", x)
	if b, ok := x.([]byte); ok {
		s = fmt.Sprintf("%q", b)
	}
	if len(s) > 400 {
		return s[:200] + " .. " + s[len(s)-200:]
	}
	return s
}

// expectCan holds what Can tells of n.
func expectCan(t *testing.T, n api.Node, want bool) {
	t.Helper()
	if got := jsay.Can(n); got != want {
		t.Fatalf("Can(%s) is %v", small(n), got)
	}
}

// expectText holds a tree's text, and all that follows of it: that it is read as the tree, is its own form, and has no gaps.
func expectText(t *testing.T, n api.Node, want string) {
	t.Helper()
	expectCan(t, n, true)
	got, why := jsay.Print(n)
	if why != api.OK || string(got) != want {
		t.Fatalf("Print(%s) is %s, %v: not %s", small(n), small(got), why, small([]byte(want)))
	}
	if back, fault := jread.Parse(got); fault != (api.Fault{}) || !tree.Same(back, n) {
		t.Fatalf("%s is read as %s, %v: not %s", small(got), small(back), fault, small(n))
	}
	expectForm(t, want, want)
	expectNoGaps(t, got)
}

// expectNoGaps holds that no byte of a gap stands outside of strings, as this file and the library tell strings.
func expectNoGaps(t *testing.T, text []byte) {
	t.Helper()
	inside := false
	for i := 0; i < len(text); i++ {
		switch {
		case text[i] == '"':
			inside = !inside
		case inside && text[i] == '\\':
			i++
		case !inside && bytes.IndexByte([]byte{32, 9, 10, 13}, text[i]) >= 0:
			t.Fatalf("%s has a gap at %d", small(text), i)
		}
	}
	var without bytes.Buffer
	if err := json.Compact(&without, text); err != nil || !bytes.Equal(without.Bytes(), text) {
		t.Fatalf("%s is %s without gaps, %v", small(text), small(without.Bytes()), err)
	}
}

// expectRefused holds the error of a tree that can not be told.
func expectRefused(t *testing.T, n api.Node, why api.Errno) {
	t.Helper()
	expectCan(t, n, false)
	expectError(t, n, why)
}

// expectLong holds that a tree can be told, but that its text is too long.
func expectLong(t *testing.T, n api.Node) {
	t.Helper()
	expectCan(t, n, true)
	expectError(t, n, api.ErrMany)
}

func expectError(t *testing.T, n api.Node, why api.Errno) {
	t.Helper()
	if got, err := jsay.Print(n); err != why || len(got) != 0 {
		t.Fatalf("Print(%s) is %s, %v: not %v", small(n), small(got), err, why)
	}
}

// expectForm holds a text's form.
func expectForm(t *testing.T, b, want string) {
	t.Helper()
	if got, fault := jsay.Form([]byte(b)); fault != (api.Fault{}) || string(got) != want {
		t.Fatalf("Form(%s) is %s, %v: not %s", small([]byte(b)), small(got), fault, small([]byte(want)))
	}
}

// expectFault holds the fault of a text that has no form.
func expectFault(t *testing.T, b string, why api.Errno, at int) {
	t.Helper()
	if got, fault := jsay.Form([]byte(b)); fault != (api.Fault{Why: why, At: at}) || len(got) != 0 {
		t.Fatalf("Form(%s) is %s, %v: not %v at %d", small([]byte(b)), small(got), fault, why, at)
	}
}

// expectModel holds Can and Print against the model, and is the error that the model asks for.
func expectModel(t *testing.T, n api.Node) api.Errno {
	t.Helper()
	why := tree.Check(n)
	switch {
	case why != api.OK:
		expectRefused(t, n, why)
		return why
	case !modelCan(n):
		expectRefused(t, n, api.ErrKind)
		return api.ErrKind
	}
	text := modelText(n)
	if len(text) > mostBytes {
		expectLong(t, n)
		return api.ErrMany
	}
	expectText(t, n, text)
	return api.OK
}

// expectFormModel holds Form against layer 10 and the model, and is the fault's error.
func expectFormModel(t *testing.T, b string) api.Errno {
	t.Helper()
	n, fault := jread.Parse([]byte(b))
	if fault.Why != api.OK {
		expectFault(t, b, fault.Why, fault.At)
		return fault.Why
	}
	text := modelText(n)
	if len(text) > mostBytes {
		expectFault(t, b, api.ErrMany, 0)
		return api.ErrMany
	}
	expectForm(t, b, text)
	return api.OK
}

// chance is a row of numbers that look like chance, the same ones each time.
type chance uint64

func (c *chance) next() uint64 {
	*c ^= *c << 13
	*c ^= *c >> 7
	*c ^= *c << 17
	return uint64(*c)
}

func (c *chance) below(n int) int { return int(c.next() % uint64(n)) }

func (c *chance) of(list ...string) string { return list[c.below(len(list))] }

// text is a text of few or many characters, of each kind that is told in a way of its own.
func (c *chance) text() string {
	var s strings.Builder
	for range c.below(4) {
		s.WriteString(c.of("a", "b", " ", "\"", "\\", "/", "\b", "\t", "\n", "\f", "\r", "\x00", "\x1f", "\x7f", "\u00e9", "\u2028", "\ufffd", "\U0001F600", "null", "[1]", "{}", ","))
	}
	return s.String()
}

// digits are digits of which neither the first nor the last is 0.
func (c *chance) digits() string {
	return c.of("1", "7", "25", "101", "90009", "18446744073709551617", strings.Repeat("3", mostDigits))
}

// leaf is a node without others that can be told.
func (c *chance) leaf() api.Node {
	neg := c.below(2) == 0
	switch c.below(7) {
	case 0:
		return nullNode()
	case 1:
		return boolNode(uint64(c.below(2)))
	case 2:
		return intNode(false, "0")
	case 3:
		return intNode(neg, c.digits()[:1]+c.of("", "0", "00", "12", strings.Repeat("5", 50)))
	case 4:
		return decNode(neg, c.digits(), -1-c.below(2000))
	case 5:
		// So many digits that it is not told as an Int.
		return decNode(neg, c.digits(), mostDigits+c.below(1201))
	}
	return textNode(c.text())
}

// tree is a tree that can be told, of at most so many nodes within one another.
func (c *chance) tree(depth int) api.Node {
	if depth < 2 || c.below(3) == 0 {
		return c.leaf()
	}
	n := arrayNode()
	for range c.below(5) {
		n.Kids = append(n.Kids, c.tree(depth-1))
	}
	if c.below(2) == 0 {
		return n
	}
	n.Kind = api.Map
	for i := range n.Kids {
		n.Keys = append(n.Keys, textNode(fmt.Sprint(i)+c.text()))
	}
	return n
}

// wrong is a node that can not be told, or may not be.
func (c *chance) wrong() api.Node {
	return []api.Node{
		floatNode(c.next()), bytesNode("a"), tagNode(1, c.leaf()), simpleNode(23),
		mapNode(intNode(false, "1"), c.leaf()), mapNode("a", c.leaf(), nullNode(), c.leaf()),
		textNode("\xFF"), intNode(false, "01"), decNode(false, "10", -1), boolNode(2),
		mapNode("a", c.leaf(), "a", c.leaf()), {Kind: 11}, {Kind: api.Null, Text: "a"},
	}[c.below(13)]
}

// nodesOf are the places of all nodes in a tree.
func nodesOf(n *api.Node) []*api.Node {
	all := []*api.Node{n}
	for i := range n.Keys {
		all = append(all, nodesOf(&n.Keys[i])...)
	}
	for i := range n.Kids {
		all = append(all, nodesOf(&n.Kids[i])...)
	}
	return all
}

// put puts a node at some place of a tree.
func (c *chance) put(n *api.Node, x api.Node) {
	all := nodesOf(n)
	*all[c.below(len(all))] = x
}

// gap is a few gaps, or none.
func (c *chance) gap() string { return c.of("", "", " ", "\t", "\n", "\r", "\r\n", "  \t ") }

// otherText is a text of a tree that can be told, with gaps, and with escapes and numbers in other forms.
func (c *chance) otherText(n api.Node) string {
	var parts []string
	for i, kid := range n.Kids {
		key := ""
		if n.Kind == api.Map {
			key = c.otherString(n.Keys[i].Text) + c.gap() + ":" + c.gap()
		}
		parts = append(parts, c.gap()+key+c.otherText(kid)+c.gap())
	}
	between := strings.Join(parts, ",") + c.gap()
	switch n.Kind {
	case api.Array:
		return "[" + between + "]"
	case api.Map:
		return "{" + between + "}"
	case api.Text:
		return c.otherString(n.Text)
	case api.Int, api.Dec:
		return c.otherNumber(n)
	}
	return modelText(n)
}

// otherString is a string that means a text, with as many escapes as there may be.
func (c *chance) otherString(s string) string {
	told := modelString(s)
	if c.below(2) == 0 {
		told = strings.NewReplacer(`\"`, `\u0022`, `\\`, `\u005C`, `\b`, `\u0008`, `\n`, `\u000A`, `\u001f`, `\u001F`).Replace(told)
	}
	return strings.NewReplacer("a", `\u0061`, "/", `\/`, "\u00e9", `\u00E9`, "\U0001F600", `\uD83d\uDE00`).Replace(told)
}

// otherNumber is a number that is written in another way.
func (c *chance) otherNumber(n api.Node) string {
	minus := map[bool]string{true: "-"}[n.Neg]
	if n.Digits == "0" {
		return c.of("0", "-0", "0.00", "0e5", "-0E-7")
	}
	return minus + c.of(
		fmt.Sprintf("%se%d", n.Digits, n.Exp),
		fmt.Sprintf("%s0E%d", n.Digits, n.Exp-1),
		fmt.Sprintf("%s.0e%d", n.Digits, n.Exp),
		fmt.Sprintf("0.%s00e%d", n.Digits, n.Exp+len(n.Digits)),
		fmt.Sprintf("%s.%s0E%+d", n.Digits[:1], n.Digits[1:], n.Exp+len(n.Digits)-1),
	)
}
