package jread_test

import (
	"bytes"
	"encoding/json"
	"math/big"
	"reflect"
	"regexp"
	"slices"
	"strings"
	"testing"

	"gantline/api"
	"gantline/jlex"
	"gantline/jread"
	"gantline/tree"
)

// The document's bounds.
const (
	mostBytes  = 4096
	mostNodes  = 1024
	mostDepth  = 24
	mostDigits = 800
	mostExp    = 2000
)

// The document's grammar, of rows of signs in which s is a string, and v any other whole value: see rowBehind.
const (
	wholeOpen = `(?:\[(?:[sv],)*|\{(?:s:[sv],)*s:)*` // Arrays and Maps that are open, each up to where a value may stand
	wantsKey  = `\{(?:s:[sv],)*`
)

var (
	wholeArray = regexp.MustCompile(`\[(?:[sv](?:,[sv])*)?\]`)
	wholeMap   = regexp.MustCompile(`\{(?:s:[sv](?:,s:[sv])*)?\}`)
	goesOn     = regexp.MustCompile(`^` + wholeOpen + `(?:|[sv]|` + wantsKey + `s?)$`)
	atKey      = regexp.MustCompile(`^` + wholeOpen + wantsKey + `$`)
)

// rowBehind is a row with one more token behind it, and with one v in place of each whole Array and Map.
func rowBehind(row string, token api.Token) string {
	row += signOf(token)
	for {
		shorter := wholeMap.ReplaceAllString(wholeArray.ReplaceAllString(row, "v"), "v")
		if shorter == row {
			return row
		}
		row = shorter
	}
}

// signOf is a token's sign in a row.
func signOf(token api.Token) string { return " {}[]:,svvvv"[token.Kind:][:1] }

// isWhole tells whether a row is one value.
func isWhole(row string) bool { return row == "s" || row == "v" }

// beginsNode tells whether a token that may stand where it does begins a node.
func beginsNode(token api.Token) bool { return strings.Contains("{[sv", signOf(token)) }

// depthBehind is the depth of a node that begins behind tokens.
func depthBehind(tokens []api.Token) int {
	depth := 1
	for _, token := range tokens {
		switch token.Kind {
		case 1, 3:
			depth++
		case 2, 4:
			depth--
		}
	}
	return depth
}

// hasKey tells whether the Map that is open behind tokens has a key already.
func hasKey(tokens []api.Token, key string) bool {
	inside := 0
	for i, token := range slices.Backward(tokens) {
		switch token.Kind {
		case 2, 4:
			inside++
		case 1, 3:
			inside--
		case 7:
			if inside == 0 && tokens[i+1].Kind == 5 && token.Text == key {
				return true
			}
		}
		if inside < 0 {
			return false
		}
	}
	return false
}

// modelWhy is what the document's words ask of a token behind others that are right, and their row.
func modelWhy(ahead []api.Token, row string, token api.Token) api.Errno {
	if isWhole(row) {
		return api.ErrMore
	}
	if !goesOn.MatchString(rowBehind(row, token)) {
		return api.ErrForm
	}
	if !beginsNode(token) {
		return api.OK
	}
	nodes := 1
	for _, t := range ahead {
		if beginsNode(t) {
			nodes++
		}
	}
	_, right := modelNumber(token.Text)
	switch {
	case nodes > mostNodes:
		return api.ErrMany
	case depthBehind(ahead) > mostDepth:
		return api.ErrDeep
	case token.Kind == 8 && !right:
		return api.ErrNum
	case token.Kind == 7 && atKey.MatchString(row) && hasKey(ahead, token.Text):
		return api.ErrTwice
	}
	return api.OK
}

// modelParse is what the document's words ask of b.
func modelParse(b []byte) (api.Node, api.Fault) {
	if len(b) > mostBytes {
		return api.Node{}, api.Fault{Why: api.ErrMany}
	}
	tokens, fault := jlex.Lex(b)
	row := ""
	for i, token := range tokens {
		if why := modelWhy(tokens[:i], row, token); why != api.OK {
			return api.Node{}, api.Fault{Why: why, At: token.From}
		}
		row = rowBehind(row, token)
	}
	switch {
	case fault.Why != api.OK:
		return api.Node{}, fault
	case !isWhole(row):
		return api.Node{}, api.Fault{Why: api.ErrEnd, At: len(b)}
	}
	return modelTree(b), api.Fault{}
}

// modelValid is what the document's words ask of b.
func modelValid(b []byte) bool {
	tokens, fault := jlex.Lex(b)
	row := ""
	for _, token := range tokens {
		row = rowBehind(row, token)
	}
	return fault.Why == api.OK && isWhole(row)
}

// modelNumber is a number's node; false, if it has too many digits or too great an exponent.
func modelNumber(s string) (api.Node, bool) {
	size, neg := strings.CutPrefix(strings.ToLower(s), "-")
	digits, power, _ := strings.Cut(size, "e")
	whole, part, _ := strings.Cut(digits, ".")
	long := strings.TrimLeft(whole+part, "0")
	short := strings.TrimRight(long, "0")
	if short == "" {
		return intNode(false, "0"), true
	}
	exp := new(big.Int)
	exp.SetString(power, 10)
	exp.Add(exp, big.NewInt(int64(len(long)-len(short)-len(part))))
	if len(short) > mostDigits || exp.CmpAbs(big.NewInt(mostExp)) > 0 {
		return api.Node{}, false
	}
	if n := int(exp.Int64()); n < 0 || len(short)+n > mostDigits {
		return decNode(neg, short, n), true
	}
	return intNode(neg, short+strings.Repeat("0", int(exp.Int64()))), true
}

// modelTree is the tree of a text that is right, by the library's reader.
func modelTree(b []byte) api.Node {
	d := json.NewDecoder(bytes.NewReader(b))
	d.UseNumber()
	return libraryNode(d)
}

func libraryNode(d *json.Decoder) api.Node {
	token, err := d.Token()
	if err != nil {
		panic(err)
	}
	switch x := token.(type) {
	case json.Delim:
		if x == '[' {
			return libraryArray(d)
		}
		return libraryMap(d)
	case string:
		return textNode(x)
	case json.Number:
		n, _ := modelNumber(x.String())
		return n
	case bool:
		return boolNode(x)
	}
	return api.Node{Kind: api.Null}
}

func libraryArray(d *json.Decoder) api.Node {
	n := api.Node{Kind: api.Array}
	for d.More() {
		n.Kids = append(n.Kids, libraryNode(d))
	}
	d.Token()
	return n
}

func libraryMap(d *json.Decoder) api.Node {
	n := api.Node{Kind: api.Map}
	for d.More() {
		n.Keys = append(n.Keys, libraryNode(d))
		n.Kids = append(n.Kids, libraryNode(d))
	}
	d.Token()
	return n
}

func textNode(s string) api.Node { return api.Node{Kind: api.Text, Text: s} }

func intNode(neg bool, digits string) api.Node {
	return api.Node{Kind: api.Int, Neg: neg, Digits: digits}
}

func decNode(neg bool, digits string, exp int) api.Node {
	return api.Node{Kind: api.Dec, Neg: neg, Digits: digits, Exp: exp}
}

func boolNode(is bool) api.Node {
	if is {
		return api.Node{Kind: api.Bool, N: 1}
	}
	return api.Node{Kind: api.Bool}
}

func nullNode() api.Node { return api.Node{Kind: api.Null} }

func arrayNode(kids ...api.Node) api.Node { return api.Node{Kind: api.Array, Kids: kids} }

// mapNode is a Map of keys, each with a value behind it.
func mapNode(members ...any) api.Node {
	n := api.Node{Kind: api.Map}
	for i := 0; i < len(members); i += 2 {
		n.Keys = append(n.Keys, textNode(members[i].(string)))
		n.Kids = append(n.Kids, members[i+1].(api.Node))
	}
	return n
}

// short is a text for a message of a test.
func short(b []byte) string {
	if len(b) > 200 {
		return string(b[:100]) + " .. " + string(b[len(b)-100:])
	}
	return string(b)
}

// expectTree holds a tree against what is read of b, and that it may be; b is then a JSON text.
func expectTree(t *testing.T, b string, want api.Node) {
	t.Helper()
	got, fault := jread.Parse([]byte(b))
	if fault != (api.Fault{}) || !tree.Same(got, want) {
		t.Fatalf("Parse(%q) is %+v, %v, not %+v", short([]byte(b)), got, fault, want)
	}
	if why := tree.Check(got); why != api.OK {
		t.Fatalf("Parse(%q) may not be: %v", short([]byte(b)), why)
	}
	expectValid(t, b, true)
}

// expectFault holds a fault against what is read of b; with it there is no tree.
func expectFault(t *testing.T, b string, why api.Errno, at int) {
	t.Helper()
	got, fault := jread.Parse([]byte(b))
	if fault != (api.Fault{Why: why, At: at}) || !reflect.DeepEqual(got, api.Node{}) {
		t.Fatalf("Parse(%q) is %+v, %v: not %v at %d", short([]byte(b)), got, fault, why, at)
	}
}

// expectNone is expectFault of what is no JSON text either.
func expectNone(t *testing.T, b string, why api.Errno, at int) {
	t.Helper()
	expectFault(t, b, why, at)
	expectValid(t, b, false)
}

// expectBound is expectFault of a JSON text that breaks a bound.
func expectBound(t *testing.T, b string, why api.Errno, at int) {
	t.Helper()
	expectFault(t, b, why, at)
	expectValid(t, b, true)
}

// expectValid holds what Valid tells of b.
func expectValid(t *testing.T, b string, want bool) {
	t.Helper()
	if got := jread.Valid([]byte(b)); got != want {
		t.Fatalf("Valid(%q) is %v", short([]byte(b)), got)
	}
}

// expectModel holds both calls against the model, and tells whether b was read.
func expectModel(t *testing.T, b string) bool {
	t.Helper()
	want, fault := modelParse([]byte(b))
	if fault.Why == api.OK {
		expectTree(t, b, want)
		return true
	}
	expectFault(t, b, fault.Why, fault.At)
	expectValid(t, b, modelValid([]byte(b)))
	return false
}

// chance is a row of numbers that look like chance, the same ones each time.
type chance uint64

func (c *chance) next() uint64 {
	*c ^= *c << 13
	*c ^= *c >> 7
	*c ^= *c << 17
	return uint64(*c)
}

func (c *chance) below(n int) int { return int(c.next() % uint64(n)) }

func (c *chance) of(list ...string) string { return list[c.below(len(list))] }

// gap is a few gaps, or none.
func (c *chance) gap() string { return c.of("", "", "", " ", "\t", "\n", "\r", "\r\n", "  \t ") }

// key is a text of few, so that some are the same.
func (c *chance) key() string {
	return c.of("a", "b", "c", "", "ab", "\u00e9", "\U0001F600", "\n", "\"")
}

// told is a string that means a text, with escapes at will.
func (c *chance) told(text string) string {
	if c.below(2) == 0 {
		return jlex.Escape(text)
	}
	b, _ := json.Marshal(text)
	return strings.NewReplacer("a", `\u0061`, "b", `\u0062`, "\u00e9", `\u00E9`, "\U0001F600", `\ud83d\uDE00`).Replace(string(b))
}

// number is a number's text and its node.
func (c *chance) number() (string, api.Node) {
	s := c.of("0", "-0", "0.00", "1", "-1", "10", "1.50", "15e-1", "-1.5e2", "1E+3", "100e-2", "12.340E-1", "1e799", "1e800", "-7e2000", "1e-2000", "0e99999999999999999999")
	n, _ := modelNumber(s)
	return s, n
}

// text is a JSON text, of at most so many values within one another, with gaps, and the tree that it tells.
func (c *chance) text(depth int) (string, api.Node) {
	kinds := 8
	if depth < 2 {
		kinds = 5
	}
	switch c.below(kinds) {
	case 0:
		return "null", nullNode()
	case 1:
		is := c.below(2) == 0
		if is {
			return "true", boolNode(is)
		}
		return "false", boolNode(is)
	case 2, 3:
		return c.number()
	case 4:
		text := c.key()
		return c.told(text), textNode(text)
	case 5:
		return c.mapText(depth)
	}
	return c.arrayText(depth)
}

func (c *chance) arrayText(depth int) (string, api.Node) {
	var parts []string
	n := arrayNode()
	for range c.below(5) {
		part, kid := c.text(depth - 1)
		parts = append(parts, c.gap()+part+c.gap())
		n.Kids = append(n.Kids, kid)
	}
	if parts == nil {
		return "[" + c.gap() + "]", n
	}
	return "[" + strings.Join(parts, ",") + "]", n
}

func (c *chance) mapText(depth int) (string, api.Node) {
	var parts []string
	n := mapNode()
	for range c.below(5) {
		key := textNode(c.key())
		if slices.ContainsFunc(n.Keys, func(k api.Node) bool { return k.Text == key.Text }) {
			continue
		}
		part, kid := c.text(depth - 1)
		parts = append(parts, c.gap()+c.told(key.Text)+c.gap()+":"+c.gap()+part+c.gap())
		n.Keys = append(n.Keys, key)
		n.Kids = append(n.Kids, kid)
	}
	if parts == nil {
		return "{" + c.gap() + "}", n
	}
	return "{" + strings.Join(parts, ",") + "}", n
}

// spoiled is a text of which some bytes are left out, doubled or put in.
func (c *chance) spoiled(b string) string {
	for range 1 + c.below(2) {
		at := c.below(len(b) + 1)
		switch c.below(3) {
		case 0:
			b = b[:at] + c.of("{", "}", "[", "]", ":", ",", `"a"`, "1", "1e9999", "true", `"`, "x", " ", "\xFF") + b[at:]
		case 1:
			b = b[:at]
		default:
			to := min(len(b), at+1+c.below(3))
			b = b[:at] + b[to:]
		}
	}
	return b
}

// mess is a row of tokens, and of what is none.
func (c *chance) mess() string {
	var b strings.Builder
	b.WriteString(c.of("", "", `{"a":1,`, `{"b":{},"a":[],`, `[{"a":null,`))
	for range c.below(12) {
		b.WriteString(c.of("{", "{", "}", "[", "[", "]", ":", ",", ",", `"a"`, `"a":`, `"\u0061":`, `"b":1`, "1 ", "1.5 ", "1e2001 ", "true", "null", `"`, "tru", "x", " ", "-"))
	}
	return b.String()
}
