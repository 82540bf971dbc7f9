package jread_test

import (
	"bytes"
	"encoding/json"
	"fmt"
	"reflect"
	"slices"
	"strings"
	"testing"

	"gantline/api"
	"gantline/jlex"
	"gantline/jread"
	"gantline/tree"
)

// tokenTexts are a token of each kind, in the order of layer 9's kinds.
var tokenTexts = []string{"{", "}", "[", "]", ":", ",", `"k"`, "1", "true", "false", "null"}

// P10.1: the document's example.
func TestExample(t *testing.T) {
	expectTree(t, `{"a":[1,2.50]}`, mapNode("a", arrayNode(intNode(false, "1"), decNode(false, "25", -1))))
}

// P10.1: each kind of value alone.
func TestEachValueAlone(t *testing.T) {
	for b, want := range map[string]api.Node{
		"null":               nullNode(),
		"true":               boolNode(true),
		"false":              boolNode(false),
		"12":                 intNode(false, "12"),
		"-12":                intNode(true, "12"),
		"0.5":                decNode(false, "5", -1),
		"-1.25":              decNode(true, "125", -2),
		`""`:                 textNode(""),
		`"a"`:                textNode("a"),
		`"\u0041\n\"\\"`:     textNode("A\n\"\\"),
		`"` + "\u20ac" + `"`: textNode("\u20ac"),
		`"\uD83D\uDE00"`:     textNode("\U0001F600"),
		`"null"`:             textNode("null"),
		`"[1]"`:              textNode("[1]"),
		"[]":                 arrayNode(),
		"{}":                 mapNode(),
	} {
		expectTree(t, b, want)
	}
}

// P10.1: Arrays and Maps of one and several, in their order, and values within values.
func TestArraysAndMaps(t *testing.T) {
	one, two := intNode(false, "1"), intNode(false, "2")
	for b, want := range map[string]api.Node{
		"[1]":                                 arrayNode(one),
		"[1,2]":                               arrayNode(one, two),
		"[2,1,1]":                             arrayNode(two, one, one),
		`[null,true,false,"x",1,0.1,[],{}]`:   arrayNode(nullNode(), boolNode(true), boolNode(false), textNode("x"), one, decNode(false, "1", -1), arrayNode(), mapNode()),
		"[[]]":                                arrayNode(arrayNode()),
		"[{}]":                                arrayNode(mapNode()),
		"[[],[[]],[]]":                        arrayNode(arrayNode(), arrayNode(arrayNode()), arrayNode()),
		"[[1],2,[[2],1]]":                     arrayNode(arrayNode(one), two, arrayNode(arrayNode(two), one)),
		`{"a":1}`:                             mapNode("a", one),
		`{"":null}`:                           mapNode("", nullNode()),
		`{"b":1,"a":2}`:                       mapNode("b", one, "a", two),
		`{"a":"a","b":"a","c":"b"}`:           mapNode("a", textNode("a"), "b", textNode("a"), "c", textNode("b")),
		`{"a":{}}`:                            mapNode("a", mapNode()),
		`{"a":[]}`:                            mapNode("a", arrayNode()),
		`{"a":{"b":{"c":1},"d":2}}`:           mapNode("a", mapNode("b", mapNode("c", one), "d", two)),
		`{"a":[1,{"b":[2]}],"c":[{}]}`:        mapNode("a", arrayNode(one, mapNode("b", arrayNode(two))), "c", arrayNode(mapNode())),
		`[{"a":1},{"a":2},{"a":[{"a":1}]}]`:   arrayNode(mapNode("a", one), mapNode("a", two), mapNode("a", arrayNode(mapNode("a", one)))),
		`[[[]],{"a":[[]]},"]",{"}":"{"},1]`:   arrayNode(arrayNode(arrayNode()), mapNode("a", arrayNode(arrayNode())), textNode("]"), mapNode("}", textNode("{")), one),
		`{"\u0000":1,"\uD83D\uDE00":2,":":1}`: mapNode("\x00", one, "\U0001F600", two, ":", one),
	} {
		expectTree(t, b, want)
	}
}

// P10.1: numbers that are whole are Ints with all their digits, however they are written.
func TestWholeNumbers(t *testing.T) {
	for s, want := range map[string]api.Node{
		"0":                      intNode(false, "0"),
		"-0":                     intNode(false, "0"),
		"0.0":                    intNode(false, "0"),
		"-0.00e7":                intNode(false, "0"),
		"0e9999999999999999999":  intNode(false, "0"),
		"-0e-99999":              intNode(false, "0"),
		"7":                      intNode(false, "7"),
		"10":                     intNode(false, "10"),
		"-1000":                  intNode(true, "1000"),
		"1.0":                    intNode(false, "1"),
		"-20.00":                 intNode(true, "20"),
		"1e2":                    intNode(false, "100"),
		"1E+2":                   intNode(false, "100"),
		"1.5e1":                  intNode(false, "15"),
		"-1.50e3":                intNode(true, "1500"),
		"100e-2":                 intNode(false, "1"),
		"12300e-1":               intNode(false, "1230"),
		"0.001e3":                intNode(false, "1"),
		"18446744073709551616":   intNode(false, "18446744073709551616"),
		"-9223372036854775809":   intNode(true, "9223372036854775809"),
		"1e799":                  intNode(false, "1"+strings.Repeat("0", 799)),
		"12e798":                 intNode(false, "12"+strings.Repeat("0", 798)),
		strings.Repeat("9", 800): intNode(false, strings.Repeat("9", 800)),
	} {
		expectTree(t, s, want)
		expectTree(t, "[ "+s+" ]", arrayNode(want))
		expectTree(t, `{"n":`+s+"}", mapNode("n", want))
	}
}

// P10.1: numbers that are not whole, or have too many digits when they are told so, are Decs in their form.
func TestNumbersWithRest(t *testing.T) {
	for s, want := range map[string]api.Node{
		"1.5":                            decNode(false, "15", -1),
		"1.50":                           decNode(false, "15", -1),
		"15e-1":                          decNode(false, "15", -1),
		"-0.5":                           decNode(true, "5", -1),
		"0.001":                          decNode(false, "1", -3),
		"-2.50e-3":                       decNode(true, "25", -4),
		"1e-1":                           decNode(false, "1", -1),
		"10e-2":                          decNode(false, "1", -1),
		"123.4500":                       decNode(false, "12345", -2),
		"1e800":                          decNode(false, "1", 800),
		"12e799":                         decNode(false, "12", 799),
		"-1.2e801":                       decNode(true, "12", 800),
		"1e2000":                         decNode(false, "1", 2000),
		"1e-2000":                        decNode(false, "1", -2000),
		"-10e-2001":                      decNode(true, "1", -2000),
		"10e1999":                        decNode(false, "1", 2000),
		"0.1e-1999":                      decNode(false, "1", -2000),
		"0.01e2002":                      decNode(false, "1", 2000),
		"0." + strings.Repeat("3", 800):  decNode(false, strings.Repeat("3", 800), -800),
		strings.Repeat("9", 800) + "e1":  decNode(false, strings.Repeat("9", 800), 1),
		"1" + strings.Repeat("0", 800):   decNode(false, "1", 800),
		"-7" + strings.Repeat("0", 2000): decNode(true, "7", 2000),
	} {
		expectTree(t, s, want)
		expectTree(t, "["+s+"\n]", arrayNode(want))
		expectTree(t, `{"n":`+s+"}", mapNode("n", want))
	}
}

// P10.1, P10.2: a number that layer 6 refuses is told at its first byte; the text is one all the same.
func TestNumbersRefused(t *testing.T) {
	for _, s := range []string{
		strings.Repeat("9", 801), "-" + strings.Repeat("1", 801), "1" + strings.Repeat("0", 2001), "0." + strings.Repeat("3", 801), "1." + strings.Repeat("0", 799) + "1" + "1",
		"1e2001", "-1e2001", "10e2000", "1E+2001", "1e-2001", "0.1e-2000", "-0.01e-1999", "1e99999999999999999999", "1e-99999999999999999999",
	} {
		expectBound(t, s, api.ErrNum, 0)
		expectBound(t, " "+s+" ", api.ErrNum, 1)
		expectBound(t, "[1, "+s+"]", api.ErrNum, 4)
		expectBound(t, `{"a":`+s+`}`, api.ErrNum, 5)
		expectBound(t, "[["+s+"],"+s+"]", api.ErrNum, 2)
	}
}

// P10.1, P10.2: 4096 bytes are read, 4097 are not, whatever they are.
func TestBytesBound(t *testing.T) {
	long := strings.Repeat("a", mostBytes-2)
	expectTree(t, `"`+long+`"`, textNode(long))
	expectNone(t, `"`+long+`a"`, api.ErrMany, 0)
	expectTree(t, strings.Repeat(" ", mostBytes-2)+"[]", arrayNode())
	expectTree(t, "[]"+strings.Repeat("\n", mostBytes-2), arrayNode())
	expectNone(t, "[]"+strings.Repeat("\n", mostBytes-1), api.ErrMany, 0)
	expectTree(t, "{"+strings.Repeat(" ", mostBytes-2)+"}", mapNode())
	expectNone(t, "{"+strings.Repeat(" ", mostBytes-1)+"}", api.ErrMany, 0)
	expectTree(t, "0."+strings.Repeat("0", mostBytes-2), intNode(false, "0"))
	expectNone(t, "0."+strings.Repeat("0", mostBytes-1), api.ErrMany, 0)
	for _, b := range []string{"x", "]", "\"\xFF", "1 2", `{"a":1,"a":2}`, "1e9999", "[1,]"} {
		expectNone(t, b+strings.Repeat(" ", mostBytes+1-len(b)), api.ErrMany, 0)
		expectNone(t, b+strings.Repeat(" ", 100_000), api.ErrMany, 0)
	}
	expectNone(t, strings.Repeat(" ", mostBytes), api.ErrEnd, mostBytes)
	expectNone(t, strings.Repeat(" ", mostBytes+1), api.ErrMany, 0)
	expectNone(t, strings.Repeat("[", 100_000), api.ErrMany, 0)
}

// P10.1, P10.2: the 1024th node is read, the 1025th is not; of values in one Array, in Arrays within one another, and of Maps and Arrays that have nothing.
func TestNodesBound(t *testing.T) {
	for _, value := range []string{"0", `""`, "[]", "{}", "1.5"} {
		kid, _ := modelParse([]byte(value))
		row := func(n int) string { return strings.Repeat(value+",", n-1) + value }
		kids := func(n int) []api.Node { return slices.Repeat([]api.Node{kid}, n) }
		most := "[" + row(mostNodes-1) + "]"
		expectTree(t, most, arrayNode(kids(mostNodes-1)...))
		last := 1 + (mostNodes-1)*(len(value)+1)
		if last+len(value)+1 <= mostBytes {
			expectBound(t, "["+row(mostNodes)+"]", api.ErrMany, last)
		}
		// The outer Array, and the two in it, are three.
		half := 500
		rest := mostNodes - 3 - half
		ahead := "[[" + row(half) + "],["
		expectTree(t, ahead+row(rest)+"]]", arrayNode(arrayNode(kids(half)...), arrayNode(kids(rest)...)))
		expectBound(t, ahead+row(rest+1)+"]]", api.ErrMany, len(ahead)+rest*(len(value)+1))
	}
	for _, value := range []string{"0", `"a"`, "null", "true", "[]", "{}", "[", "{", "-1.5"} {
		b := "[" + strings.Repeat("0,", mostNodes-1) + value
		expectFault(t, b, api.ErrMany, 1+2*(mostNodes-1))
	}
}

// members are a Map's members of n keys, each with a value.
func members(n int, value string) []string {
	var all []string
	for i := range n {
		all = append(all, fmt.Sprintf(`"%x":%s`, i, value))
	}
	return all
}

// P10.1, P10.2: keys are nodes, too: the 1025th may be a key or its value; a Map of 0 is one node.
func TestNodesBoundOfKeys(t *testing.T) {
	value := intNode(false, "0")
	whole := func(n int) api.Node {
		m := mapNode()
		for i := range n {
			m.Keys = append(m.Keys, textNode(fmt.Sprintf("%x", i)))
			m.Kids = append(m.Kids, value)
		}
		return m
	}
	// The Map and 511 members are 1023: the 512th key is the 1024th, its value the 1025th.
	all := members(512, "0")
	most := "{" + strings.Join(all[:511], ",")
	expectTree(t, most+"}", whole(511))
	expectBound(t, most+","+all[511]+"}", api.ErrMany, len(most)+len(`,"1ff":`))
	expectFault(t, most+","+`"1ff"`, api.ErrEnd, len(most)+len(`,"1ff"`))
	// One more node ahead: the 512th key is the 1025th.
	expectTree(t, "["+most+"}]", arrayNode(whole(511)))
	expectBound(t, "["+most+","+all[511]+"}]", api.ErrMany, 1+len(most)+1)
	expectBound(t, "["+most+`,"0":0}]`, api.ErrMany, 1+len(most)+1)
	expectBound(t, "["+most+"},0]", api.ErrMany, 1+len(most)+2)
	expectBound(t, "["+most+"},{}]", api.ErrMany, 1+len(most)+2)
	expectTree(t, "["+most[:strings.LastIndex(most, ",")]+"},0,[]]", arrayNode(whole(510), value, arrayNode()))
	expectBound(t, "["+most[:strings.LastIndex(most, ",")]+`},{"a":{}}]`, api.ErrMany, 1+strings.LastIndex(most, ",")+len(`},{"a":`))
}

// nested are n Arrays within one another around a text.
func nested(n int, inside string) string {
	return strings.Repeat("[", n) + inside + strings.Repeat("]", n)
}

// nestedNode is the tree of nested.
func nestedNode(n int, inside ...api.Node) api.Node {
	all := arrayNode(inside...)
	for range n - 1 {
		all = arrayNode(all)
	}
	return all
}

// nestedMaps are n Maps within one another around a text.
func nestedMaps(n int, inside string) string {
	return strings.Repeat(`{"a":`, n) + inside + strings.Repeat("}", n)
}

// P10.1, P10.2: 24 Arrays or Maps within one another are read, 25 are not, nor is what stands in the 24th, a key too.
func TestDepthBound(t *testing.T) {
	expectTree(t, nested(mostDepth, ""), nestedNode(mostDepth))
	expectBound(t, nested(mostDepth+1, ""), api.ErrDeep, mostDepth)
	inner, innerMap := arrayNode(), mapNode()
	for range mostDepth - 1 {
		inner, innerMap = mapNode("a", inner), mapNode("a", innerMap)
	}
	expectTree(t, nestedMaps(mostDepth-1, "[]"), inner)
	expectTree(t, nestedMaps(mostDepth-1, "{}"), innerMap)
	expectTree(t, nested(mostDepth-1, "{}"), nestedNode(mostDepth-1, mapNode()))
	expectBound(t, nestedMaps(mostDepth, "{}"), api.ErrDeep, 5*(mostDepth-1)+1)
	for _, value := range []string{"0", "-1.5", `"a"`, "true", "false", "null", "[]", "{}", "[[]]", `{"a":1}`, "1e9999"} {
		expectBound(t, nested(mostDepth, value), api.ErrDeep, mostDepth)
		expectBound(t, nested(mostDepth, " "+value+",1"), api.ErrDeep, mostDepth+1)
		expectBound(t, nestedMaps(mostDepth-1, "["+value+"]"), api.ErrDeep, 5*(mostDepth-1)+1)
		expectBound(t, nested(mostDepth-1, `{"a":`+value+"}"), api.ErrDeep, mostDepth)
		expectBound(t, nestedMaps(mostDepth, value), api.ErrDeep, 5*(mostDepth-1)+1)
	}
	for _, value := range []string{"0", "-1.5", `"a"`, "true", "false", "null", "[]", "{}"} {
		kid, _ := modelParse([]byte(value))
		expectTree(t, nested(mostDepth-1, value), nestedNode(mostDepth-1, kid))
		expectTree(t, nested(mostDepth-1, value+","+value), nestedNode(mostDepth-1, kid, kid))
	}
	expectTree(t, nested(mostDepth-2, `{"a":1,"b":[]}`), nestedNode(mostDepth-2, mapNode("a", intNode(false, "1"), "b", arrayNode())))
	expectFault(t, strings.Repeat("[", mostBytes), api.ErrDeep, mostDepth)
}

// P10.1: the depth counts what is open alone, not what has ended.
func TestDepthComesBack(t *testing.T) {
	deep := nested(mostDepth-1, "")
	kid := nestedNode(mostDepth - 1)
	expectTree(t, "["+deep+","+deep+",1,"+deep+"]", arrayNode(kid, kid, intNode(false, "1"), kid))
	expectTree(t, `{"a":`+deep+`,"b":`+deep+"}", mapNode("a", kid, "b", kid))
	expectBound(t, "["+deep+",["+deep+"]]", api.ErrDeep, 1+len(deep)+2+mostDepth-2)
	row := "[" + strings.Repeat("[],{},", 300) + "[]]"
	if n, fault := jread.Parse([]byte(row)); fault.Why != api.OK || len(n.Kids) != 601 {
		t.Fatal(len(n.Kids), fault)
	}
}

// P10.1, P10.2: a key that the same Map has already is told where it stands: next to the other and apart, written alike and with other escapes.
func TestKeysTwice(t *testing.T) {
	for _, k := range []struct {
		b  string
		at int
	}{
		{`{"a":1,"a":1}`, 7},
		{`{"a":1,"a":2}`, 7},
		{`{"a":1,"b":2,"a":3}`, 13},
		{`{"b":1,"a":2,"c":3,"a":4,"b":5}`, 19},
		{`{"":1, "":2}`, 7},
		{`{"a":1,"\u0061":2}`, 7},
		{`{"\u0061":1,"a":2}`, 12},
		{`{"\u00e9":1,"\u00E9":2}`, 12},
		{`{"\u00e9":1,"` + "\u00e9" + `":2}`, 12},
		{`{"\n":1,"\u000a":2,"\u000A":3}`, 8},
		{`{"\/":1,"/":2}`, 8},
		{`{"\uD83D\uDE00":1,"` + "\U0001F600" + `":2}`, 18},
		{`{"a":{"a":1},"a":{}}`, 13},
		{`{"a":[],"b":[{"c":1}],"a":1}`, 22},
		{`[{"a":1},{"b":{"c":1,"d":{},"c":2}}]`, 28},
		{`{"x":{"a":1,"a":2},"x":1}`, 12},
	} {
		expectBound(t, k.b, api.ErrTwice, k.at)
		expectBound(t, " ["+k.b+"]", api.ErrTwice, k.at+2)
		expectBound(t, `{"a":`+k.b+"}", api.ErrTwice, k.at+5)
		// The fault hangs on the bytes up to the key's end alone.
		end := k.at + 1 + strings.IndexByte(k.b[k.at+1:], '"') + 1
		expectFault(t, k.b[:end], api.ErrTwice, k.at)
	}
}

// P10.1: keys that are the same in two Maps, keys and texts that are the same, and keys that look alike are no fault.
func TestKeysOnce(t *testing.T) {
	one := intNode(false, "1")
	for b, want := range map[string]api.Node{
		`[{"a":1},{"a":1}]`:                   arrayNode(mapNode("a", one), mapNode("a", one)),
		`{"a":{"a":{"a":1}}}`:                 mapNode("a", mapNode("a", mapNode("a", one))),
		`{"a":{"b":1},"b":{"a":1}}`:           mapNode("a", mapNode("b", one), "b", mapNode("a", one)),
		`{"a":[{"a":1},{"a":1}],"b":{"a":1}}`: mapNode("a", arrayNode(mapNode("a", one), mapNode("a", one)), "b", mapNode("a", one)),
		`{"a":"a","b":"a"}`:                   mapNode("a", textNode("a"), "b", textNode("a")),
		`{"a":"b","b":"b"}`:                   mapNode("a", textNode("b"), "b", textNode("b")),
		`{"a":1,"A":1,"a ":1,"":1," ":1}`:     mapNode("a", one, "A", one, "a ", one, "", one, " ", one),
		`{"\\u0061":1,"a":1}`:                 mapNode(`\u0061`, one, "a", one),
		`{"\u00e9":1,"e\u0301":1}`:            mapNode("\u00e9", one, "e\u0301", one),
		`{"1":1,"1.0":1}`:                     mapNode("1", one, "1.0", one),
	} {
		expectTree(t, b, want)
	}
}

// P10.1, P10.2: no bytes, and gaps alone.
func TestNothing(t *testing.T) {
	if n, fault := jread.Parse(nil); !reflect.DeepEqual(n, api.Node{}) || fault != (api.Fault{Why: api.ErrEnd}) || jread.Valid(nil) {
		t.Fatal(n, fault)
	}
	for _, b := range []string{"", " ", "\t", "\n", "\r", " \t\r\n "} {
		expectNone(t, b, api.ErrEnd, len(b))
	}
}

// P10.1, P10.2: a value that has not ended, cut off at each of its tokens, with and without gaps behind; behind its last token it has.
func TestCutAtEachToken(t *testing.T) {
	for _, b := range []string{
		`[]`, `{}`, `[1]`, `[1,2]`, `{"a":1}`, `{"a":1,"b":2}`, `[[],{},[[]],null]`, `{"a":[1,{"b":[true,false]}],"c":{"d":"e"}}`, ` [ 1 , { "a" : [ ] } ] `,
	} {
		tokens, _ := jlex.Lex([]byte(b))
		for _, token := range tokens[:len(tokens)-1] {
			expectNone(t, b[:token.To], api.ErrEnd, token.To)
			expectNone(t, b[:token.To]+" \n", api.ErrEnd, token.To+2)
		}
		expectModel(t, b)
	}
}

// P10.1, P10.2: each token at each place: those that may stand there, and ErrForm, or ErrMore behind all, for the others.
func TestEachTokenAtEachPlace(t *testing.T) {
	values := `{ [ "k" 1 true false null`
	for ahead, may := range map[string]string{
		"":                 values,
		"[":                values + " ]",
		"[1,":              values,
		"[[],":             values,
		`{"a":[1,2,`:       values,
		"[1":               ", ]",
		"[[]":              ", ]",
		"[{}":              ", ]",
		`["a"`:             ", ]",
		"[null,true":       ", ]",
		`{"a":[{}`:         ", ]",
		"{":                `"k" }`,
		`[{`:               `"k" }`,
		`{"a":{`:           `"k" }`,
		`{"a":1,`:          `"k"`,
		`{"a":{},"b":[],`:  `"k"`,
		`[{"a":"b",`:       `"k"`,
		`{"a"`:             ":",
		`{"b":1,"a"`:       ":",
		`[{"a"`:            ":",
		`{"a":`:            values,
		`{"b":1,"a":`:      values,
		`[{"a":`:           values,
		`{"a":1`:           ", }",
		`{"a":"b"`:         ", }",
		`{"a":[]`:          ", }",
		`{"a":{}`:          ", }",
		`[{"a":null`:       ", }",
		`{"a":1,"b":false`: ", }",
		"1":                "",
		`"a"`:              "",
		"null":             "",
		"true":             "",
		"[]":               "",
		"{}":               "",
		"[[1],{}]":         "",
		`{"a":[]}`:         "",
	} {
		for _, token := range tokenTexts {
			b := ahead + " " + token
			switch {
			case may == "":
				expectNone(t, b, api.ErrMore, len(ahead)+1)
				expectNone(t, b+" x", api.ErrMore, len(ahead)+1)
			case !slices.Contains(strings.Fields(may), token):
				expectNone(t, b, api.ErrForm, len(ahead)+1)
				expectNone(t, b+" x", api.ErrForm, len(ahead)+1)
			default:
				if _, fault := jread.Parse([]byte(b)); fault.Why != api.OK && fault != (api.Fault{Why: api.ErrEnd, At: len(b)}) {
					t.Fatalf("Parse(%q) is %v", b, fault)
				}
				expectNone(t, b+" x", api.ErrForm, len(b)+1)
			}
			expectModel(t, b)
		}
	}
}

// P10.1, P10.2: all rows of tokens that go on, and each token behind them, against the model.
func TestAllRows(t *testing.T) {
	var rows func(ahead string, most int, texts []string)
	read := 0
	rows = func(ahead string, most int, texts []string) {
		for _, text := range texts {
			b := ahead + text + " "
			if expectModel(t, b) {
				read++
			}
			if _, fault := modelParse([]byte(b)); most > 1 && fault == (api.Fault{Why: api.ErrEnd, At: len(b)}) {
				rows(b, most-1, texts)
			}
		}
	}
	rows("", 7, tokenTexts)
	rows("", 10, []string{"{", "}", "[", "]", ":", ",", `"a"`})
	if read < 300 {
		t.Fatal("too few texts:", read)
	}
}

// P10.1: each error alone, at its place.
func TestEachErrorAlone(t *testing.T) {
	for b, fault := range map[string]api.Fault{
		" [1, 2":             {Why: api.ErrEnd, At: 6},
		" [1, 2 3]":          {Why: api.ErrForm, At: 7},
		" [1, \"a\xFF\"]":    {Why: api.ErrUtf, At: 7},
		" [1, x]":            {Why: api.ErrForm, At: 5},
		" [1, \"a\n\"]":      {Why: api.ErrForm, At: 7},
		" [1, tru":           {Why: api.ErrEnd, At: 8},
		" [1, 1.":            {Why: api.ErrEnd, At: 7},
		" [1, 2] ,":          {Why: api.ErrMore, At: 8},
		" [1, 1e2001]":       {Why: api.ErrNum, At: 5},
		` {"a":1, "a" :2}`:   {Why: api.ErrTwice, At: 9},
		" " + nested(25, ""): {Why: api.ErrDeep, At: 25},
		" [" + strings.Repeat("0,", 1023) + " 0]":    {Why: api.ErrMany, At: 2049},
		" [1" + strings.Repeat(" ", mostBytes) + "]": {Why: api.ErrMany},
	} {
		expectFault(t, b, fault.Why, fault.At)
	}
}

// P10.1, R1: of two errors at one token it is the one that the document names first.
func TestTwoAtOneToken(t *testing.T) {
	full := "[" + strings.Repeat("0,", mostNodes-2) + "0]" // 1024 nodes
	// 1000 nodes in the second of 24 Arrays, and 24 more: the next node is the 1025th, and in a depth of 25.
	deepest := "[[" + strings.Repeat("0,", mostNodes-mostDepth) + strings.Repeat("[", mostDepth-2)
	deepestMap := "[[" + strings.Repeat("0,", mostNodes-mostDepth) + strings.Repeat("[", mostDepth-3) + "{"
	crowded := "[" + strings.Repeat("0,", mostNodes-5) + `{"a":0` // 1023 nodes
	for _, k := range []struct {
		ahead, token string
		why          api.Errno
	}{
		{"1 ", "]", api.ErrMore}, {"[] ", ",", api.ErrMore}, {"{} ", ":", api.ErrMore}, {"1 ", "1e9999", api.ErrMore}, // ahead of ErrForm, ErrNum
		{full, "0", api.ErrMore}, {full, "[", api.ErrMore}, {full, "1e9999", api.ErrMore}, // ahead of ErrMany
		{"[" + strings.Repeat("0,", mostNodes-2) + "0 ", "0", api.ErrForm}, // ahead of ErrMany
		{"[" + strings.Repeat("0,", mostNodes-2) + "0 ", "1e9999", api.ErrForm},
		{"[1 ", "1e9999", api.ErrForm}, {`{`, "1e9999", api.ErrForm}, {`{"a"`, "1e9999", api.ErrForm}, // ahead of ErrNum
		{strings.Repeat("[", mostDepth-1) + "{", "0", api.ErrForm}, // ahead of ErrDeep
		{strings.Repeat("[", mostDepth-1) + "{", "[", api.ErrForm},
		{strings.Repeat("[", mostDepth-1) + "{", "1e9999", api.ErrForm},
		{deepestMap, "1e9999", api.ErrForm},                            // ahead of ErrMany, ErrDeep
		{`{"a":1 `, `"a"`, api.ErrForm}, {`{"a" `, `"a"`, api.ErrForm}, // ahead of ErrTwice
		{deepest, "0", api.ErrMany}, {deepest, "[", api.ErrMany}, {deepest, "1e9999", api.ErrMany}, {deepestMap, `"a"`, api.ErrMany}, // ahead of ErrDeep, ErrNum
		{"[" + strings.Repeat("0,", mostNodes-1), "1e9999", api.ErrMany},
		{strings.Replace(crowded, "0,", "0,0,", 1) + ",", `"a"`, api.ErrMany}, // ahead of ErrTwice
		{crowded + ",", `"a"`, api.ErrTwice},
		{strings.Repeat("[", mostDepth), "1e9999", api.ErrDeep}, // ahead of ErrNum
		{"[[" + strings.Repeat("0,", mostNodes-mostDepth-1) + strings.Repeat("[", mostDepth-2), "1e9999", api.ErrDeep},
	} {
		expectFault(t, k.ahead+k.token, k.why, len(k.ahead))
		expectFault(t, k.ahead+k.token+` x"`, k.why, len(k.ahead))
	}
}

// P10.1: of faults at two tokens it is the one at the first.
func TestFirstOfTwoPlaces(t *testing.T) {
	for b, fault := range map[string]api.Fault{
		"[1e9999,]":                    {Why: api.ErrNum, At: 1},
		"[,1e9999]":                    {Why: api.ErrForm, At: 1},
		"1e9999 1":                     {Why: api.ErrNum},
		"[1e9999":                      {Why: api.ErrNum, At: 1},
		`{"a":1,"a"`:                   {Why: api.ErrTwice, At: 7},
		`{"a":1,"a" 1e9999`:            {Why: api.ErrTwice, At: 7},
		`{"a":1e9999,"a":1}`:           {Why: api.ErrNum, At: 5},
		`{"a":1,"a":1} 1`:              {Why: api.ErrTwice, At: 7},
		strings.Repeat("[", 25) + "]]": {Why: api.ErrDeep, At: 24},
		strings.Repeat("[", 25) + strings.Repeat("0,", 1024):       {Why: api.ErrDeep, At: 24},
		"[" + strings.Repeat("0,", 1024) + strings.Repeat("[", 25): {Why: api.ErrMany, At: 2047},
		"[1]]]":    {Why: api.ErrMore, At: 3},
		"[1}}":     {Why: api.ErrForm, At: 2},
		"01":       {Why: api.ErrMore, At: 1},
		"-01":      {Why: api.ErrMore, At: 2},
		"[01]":     {Why: api.ErrForm, At: 2},
		"1-2":      {Why: api.ErrMore, At: 1},
		`"a""b"`:   {Why: api.ErrMore, At: 3},
		"nullnull": {Why: api.ErrMore, At: 4},
	} {
		expectFault(t, b, fault.Why, fault.At)
	}
}

// P10.1, P10.2: a fault of layer 9 stands behind all tokens ahead of it, and ahead of the end of what has not ended.
func TestFaultsOfLayerNine(t *testing.T) {
	for b, fault := range map[string]api.Fault{
		"x":                                      {Why: api.ErrForm},
		"\xFF":                                   {Why: api.ErrForm},
		"\"\xFF\"":                               {Why: api.ErrUtf, At: 1},
		`"a`:                                     {Why: api.ErrEnd, At: 2},
		"tru":                                    {Why: api.ErrEnd, At: 3},
		"trux":                                   {Why: api.ErrForm, At: 3},
		"-":                                      {Why: api.ErrEnd, At: 1},
		"-x":                                     {Why: api.ErrForm, At: 1},
		"1.x":                                    {Why: api.ErrForm, At: 2},
		`"\uDC00"`:                               {Why: api.ErrForm, At: 4},
		"[x":                                     {Why: api.ErrForm, At: 1},
		"[1 x":                                   {Why: api.ErrForm, At: 3},
		"[1 \"a\xFF\"":                           {Why: api.ErrUtf, At: 5},
		"[1 \"a":                                 {Why: api.ErrEnd, At: 5},
		`{"a" tru]`:                              {Why: api.ErrForm, At: 8},
		`{"a":1,"a`:                              {Why: api.ErrEnd, At: 9},
		`{"a":1,"a` + "\xFF":                     {Why: api.ErrUtf, At: 9},
		nested(24, "x"):                          {Why: api.ErrForm, At: 24},
		nested(24, "\"\xFF"):                     {Why: api.ErrUtf, At: 25},
		"[1] x":                                  {Why: api.ErrForm, At: 4},
		"[1] \"\xFF":                             {Why: api.ErrUtf, At: 5},
		"[1] \"a":                                {Why: api.ErrEnd, At: 6},
		"1 tru":                                  {Why: api.ErrEnd, At: 5},
		"1 1.x":                                  {Why: api.ErrForm, At: 4},
		"[" + strings.Repeat("0,", 1023) + "1.x": {Why: api.ErrForm, At: 2049},
	} {
		expectNone(t, b, fault.Why, fault.At)
	}
	for ahead, fault := range map[string]api.Fault{
		"]":                              {Why: api.ErrForm},
		"[1 2":                           {Why: api.ErrForm, At: 3},
		"[1] ,":                          {Why: api.ErrMore, At: 4},
		"1 2":                            {Why: api.ErrMore, At: 2},
		"[1e9999":                        {Why: api.ErrNum, At: 1},
		`{"a":1,"a"`:                     {Why: api.ErrTwice, At: 7},
		nested(25, ""):                   {Why: api.ErrDeep, At: 24},
		"[" + strings.Repeat("0,", 1024): {Why: api.ErrMany, At: 2047},
	} {
		for _, behind := range []string{" x", " \"\xFF", " \"a", " tru", " 1.", " -x", " \xFF"} {
			expectNone(t, ahead+behind, fault.Why, fault.At)
		}
	}
}

// P10.1, P10.2: a token too many behind a whole value, whatever it is, is told ahead of all that is behind it.
func TestTokenTooMany(t *testing.T) {
	for _, value := range []string{"1", "-1.5", `"a"`, "null", "true", "false", "[]", "{}", "[1,2]", `{"a":[1]}`, nested(24, "")} {
		for _, token := range append(slices.Clone(tokenTexts), "1e9999", strings.Repeat("9", 801), `""`) {
			expectNone(t, value+" "+token, api.ErrMore, len(value)+1)
			expectNone(t, "\n"+value+"\t"+token+" ", api.ErrMore, len(value)+2)
			expectNone(t, value+" "+token+" "+token, api.ErrMore, len(value)+1)
		}
		expectNone(t, value+" "+value, api.ErrMore, len(value)+1)
	}
}

// P10.2: texts that break just one bound, or all of them, are JSON texts.
func TestValidBeyondBounds(t *testing.T) {
	for _, b := range []string{
		"[" + strings.Repeat("0,", 1023) + "0]",
		"[" + strings.Repeat("0,", 2046) + "0]",
		"{" + strings.Join(members(512, "0"), ",") + "}",
		nested(25, ""), nested(2048, ""), nested(2000, "1,2"), nestedMaps(25, "1"), nestedMaps(682, `""`), nested(24, "{}"), nested(24, `"a"`),
		"1e2001", "-1e-2001", "[1e99999999999999999999]", strings.Repeat("9", 801), strings.Repeat("9", 4096), `{"a":1e9999}`,
		`{"a":1,"a":1}`, `{"a":1,"b":2,"\u0061":3,"a":4}`, `[{"a":{"a":1,"a":2}}]`, "{" + strings.Repeat(`"":0,`, 800) + `"":0}`,
		`{"a":1e9999,"a":` + nested(30, strings.Repeat("1e9999,", 500)+"0") + "}",
	} {
		expectValid(t, b, true)
		if n, fault := jread.Parse([]byte(b)); fault.Why == api.OK || !reflect.DeepEqual(n, api.Node{}) {
			t.Fatalf("Parse(%q) is %v", short([]byte(b)), fault)
		}
		expectValid(t, b[:len(b)-1]+"x", false)
		expectValid(t, b+"]", false)
		expectValid(t, b+" 1", false)
		if strings.HasSuffix(b, "]") || strings.HasSuffix(b, "}") {
			expectValid(t, b[:len(b)-1], false)
			expectValid(t, b[:len(b)-1]+",", false)
			expectValid(t, b[:len(b)-1]+",]", false)
		}
	}
}

// P10.2: texts that are none, also where a bound is broken ahead of that.
func TestNotValid(t *testing.T) {
	for _, b := range []string{
		"", " ", "x", "[", "]", "{", "}", ",", ":", "[1", "[1,", "[1,]", "[,1]", "[,]", "[1 2]", "[1,,2]", "[1}", "[1:2]", "{1:2}", `{"a"}`, `{"a":}`, `{"a":1,}`, `{,"a":1}`, `{"a":1]`, `{"a" 1}`, `{"a":1 "b":2}`,
		`{"a",1}`, `{"a":1:2}`, `{"a":1,2}`, `{"a":1,[]}`, `{[]:1}`, `{null:1}`, `{true:1}`, "1 2", "1,2", "[] []", "{}{}", "[]]", "{}}", `"a" "b"`, `"a":1`, "nul", "True", "+1", "01", "1.", ".5", "1e", "-", "'a'",
		"\"\n\"", "\"\xFF\"", `"\x"`, `"\uD800"`, `"a`, "\uFEFF1", "[1]x", "1/**/", "[1e9999,]", `{"a":1,"a":2,}`, nested(30, ",1"), nested(30, "") + "]", nested(2047, "") + "]", strings.Repeat("[", mostBytes), "[" + strings.Repeat("0,", 1100) + "]",
	} {
		expectValid(t, b, false)
	}
}

// P10.3: what is read may be; all that bytes of chance are read as.
func TestWhatIsReadMayBe(t *testing.T) {
	c := chance(101)
	for range 3000 {
		b, want := c.text(1 + c.below(6))
		n, fault := jread.Parse([]byte(b))
		if fault.Why != api.OK || tree.Check(n) != api.OK || !tree.Same(n, want) {
			t.Fatalf("Parse(%q) is %+v, %v, %v", b, n, fault, tree.Check(n))
		}
	}
	for _, b := range []string{
		nested(24, ""), "[" + strings.Repeat("0,", 1022) + "0]", "{" + strings.Join(members(511, "0"), ",") + "}", `"` + strings.Repeat("a", mostBytes-2) + `"`,
		"1e2000", "1e-2000", strings.Repeat("9", 800), "-0", "0e9999", `["\u0000\uD83D\uDE00"]`,
	} {
		if n, fault := jread.Parse([]byte(b)); fault.Why != api.OK || tree.Check(n) != api.OK {
			t.Fatalf("Parse(%q) is %v, %v", short([]byte(b)), fault, tree.Check(n))
		}
	}
}

// P10.4: gaps of all kinds, ahead of, between and behind tokens, turn nothing of the tree.
func TestGapsTurnNothing(t *testing.T) {
	c := chance(102)
	for range 1000 {
		b, want := c.text(5)
		tokens, _ := jlex.Lex([]byte(b))
		for _, gap := range []string{"", " ", "\t", "\n", "\r", "\r\n\t ", c.gap()} {
			var wide strings.Builder
			wide.WriteString(gap)
			for _, token := range tokens {
				wide.WriteString(b[token.From:token.To] + gap)
			}
			if wide.Len() <= mostBytes {
				expectTree(t, wide.String(), want)
			}
		}
	}
	expectTree(t, "\r\n{ \t\"a\"\n:\r[\n1 , 2.50\t]\n}\n", mapNode("a", arrayNode(intNode(false, "1"), decNode(false, "25", -1))))
	for _, b := range []string{"1 2", "tr ue", "- 1", "1 .5", "1. 5", "1e 5", "\f1", "1\v", "\u00a01", "[1,\x00]"} {
		if _, fault := jread.Parse([]byte(b)); fault.Why == api.OK {
			t.Fatalf("%q is read", b)
		}
	}
	expectTree(t, `[" a  b "]`, arrayNode(textNode(" a  b ")))
}

// P10.5: two values in brackets, with a comma, are an Array of both; if one is none, so is that.
func TestTwoInBrackets(t *testing.T) {
	c := chance(103)
	for range 2000 {
		a, one := c.text(1 + c.below(5))
		b, two := c.text(1 + c.below(5))
		expectTree(t, "["+a+","+b+"]", arrayNode(one, two))
		x, y := c.spoiled(a), c.spoiled(b)
		_, first := jread.Parse([]byte(x))
		_, second := jread.Parse([]byte(y))
		_, both := jread.Parse([]byte("[" + x + "," + y + "]"))
		if first.Why == api.OK && second.Why == api.OK && both.Why != api.OK {
			t.Fatalf("%q, %q: %v", x, y, both)
		}
		if jread.Valid([]byte(x)) && jread.Valid([]byte(y)) && !jread.Valid([]byte("["+x+","+y+"]")) {
			t.Fatalf("%q, %q", x, y)
		}
	}
	deep := nested(mostDepth-1, "")
	expectTree(t, "["+deep+","+deep+"]", arrayNode(nestedNode(mostDepth-1), nestedNode(mostDepth-1)))
	expectTree(t, `[{"a":1},{"a":1}]`, arrayNode(mapNode("a", intNode(false, "1")), mapNode("a", intNode(false, "1"))))
}

// P10.1, P10.2: texts, spoiled ones and rows of tokens by chance, against the model; Valid also against the library where layer 9 has no fault.
func TestChanceAgainstModel(t *testing.T) {
	c := chance(104)
	found := map[api.Errno]int{}
	for i := range 12000 {
		b := c.mess()
		if i%2 == 0 {
			b, _ = c.text(1 + c.below(5))
			b = c.spoiled(b)
		}
		expectModel(t, b)
		_, fault := jread.Parse([]byte(b))
		found[fault.Why]++
		if _, lexed := jlex.Lex([]byte(b)); lexed.Why == api.OK {
			expectValid(t, b, json.Valid([]byte(b)))
		}
	}
	for _, why := range []api.Errno{api.OK, api.ErrEnd, api.ErrForm, api.ErrUtf, api.ErrTwice, api.ErrMore, api.ErrNum} {
		if found[why] < 20 {
			t.Fatal("too few of", why, found)
		}
	}
}

// P10.1: texts near the bounds of nodes and depth, by chance, against the model.
func TestChanceNearBounds(t *testing.T) {
	c := chance(105)
	for range 300 {
		var b strings.Builder
		depth := mostDepth - 3 + c.below(5)
		for range depth {
			b.WriteString(c.of("[", "[1,", `{"a":`, `{"b":[],"a":`, "[{},"))
		}
		b.WriteString(c.of("1", "[]", "{}", `{"a":1}`, "1e9999", "", `""`, "]"))
		expectModel(t, b.String())
	}
	// Ten nodes a hundred times and more, so that the rest is a few below the bound, or beyond it.
	ahead := "[" + strings.Repeat("["+strings.Repeat("0,", 8)+"0],", (mostNodes-4)/10)
	read := 0
	for range 60 {
		b, _ := c.arrayText(3)
		if expectModel(t, ahead+b+"]") {
			read++
		}
	}
	if read < 10 || read > 50 {
		t.Fatal("too few on one side:", read)
	}
}

// R1: every call ends, at all bytes: rows of chance, and each single byte behind each other one.
func TestAnyBytes(t *testing.T) {
	c := chance(106)
	for range 3000 {
		b := make([]byte, c.below(40))
		for i := range b {
			b[i] = byte(c.next())
		}
		expectModel(t, string(b))
	}
	for x := range 256 {
		for y := range 256 {
			b := []byte{byte(x), byte(y)}
			n, fault := jread.Parse(b)
			if jread.Valid(b) != (fault.Why == api.OK) || fault.Why != api.OK && !reflect.DeepEqual(n, api.Node{}) {
				t.Fatalf("%q: %+v, %v", b, n, fault)
			}
		}
	}
}

// R4: bytes that are handed in, and the room behind them, stay as they are, and are not looked at there.
func TestNothingHandedInIsChanged(t *testing.T) {
	for _, head := range []string{"", `{"a":[1,2.50]}`, `{"a":[1`, `"a\u0041`, "1", "tru", "[1,", "x", "\"\xFF", `{"a":1,"a":2}`} {
		kept := []byte(head + `0],}"e` + "\xA9")
		all := slices.Clone(kept)
		want, fault := modelParse([]byte(head))
		got, why := jread.Parse(all[:len(head)])
		if !tree.Same(got, want) || why != fault || jread.Valid(all[:len(head)]) != modelValid([]byte(head)) {
			t.Fatalf("%q: %+v, %v", head, got, why)
		}
		if !bytes.Equal(all, kept) {
			t.Fatalf("%q has become %q", kept, all)
		}
	}
}

// overwrite writes over all of a tree, and behind the end of each of its lists.
func overwrite(n *api.Node) {
	for i := range n.Keys {
		overwrite(&n.Keys[i])
	}
	for i := range n.Kids {
		overwrite(&n.Kids[i])
	}
	_ = append(n.Keys, textNode("over"))
	_ = append(n.Kids, textNode("over"))
	*n = textNode("over")
}

// R4: nothing that is handed in is kept, and what was answered may be written over without turning anything else.
func TestNothingHandedInIsKept(t *testing.T) {
	text := `{"abc":["def",12,1.5,[[],{"x":null}]],"g":{"h":[true]}}`
	want, _ := modelParse([]byte(text))
	b := []byte(text)
	one, _ := jread.Parse(b)
	two, _ := jread.Parse(b)
	overwrite(&one)
	for i := range b {
		b[i] = 'z'
	}
	if !tree.Same(two, want) {
		t.Fatalf("%+v", two)
	}
	expectTree(t, text, want)
}

// R4: no two lists of one answer share memory: each part may be written over without turning the others.
func TestPartsAreApart(t *testing.T) {
	text := `[[1,2,3],[4,[5],6],{"a":1,"b":[7],"c":{}},{"a":2,"d":[[8]]},[],[9,9,9,9,9]]`
	want, _ := modelParse([]byte(text))
	for i := range want.Kids {
		got, _ := jread.Parse([]byte(text))
		overwrite(&got.Kids[i])
		for j, kid := range want.Kids {
			if j != i && !tree.Same(got.Kids[j], kid) {
				t.Fatalf("%d has turned %d: %+v", i, j, got.Kids[j])
			}
		}
	}
}

// R3: the same calls have the same answers, whatever was called between.
func TestSameAnswers(t *testing.T) {
	c := chance(107)
	var rows []string
	var nodes []api.Node
	var faults []api.Fault
	for range 500 {
		b, _ := c.text(4)
		if c.below(2) == 0 {
			b = c.spoiled(b)
		}
		n, fault := jread.Parse([]byte(b))
		rows, nodes, faults = append(rows, b), append(nodes, n), append(faults, fault)
	}
	for i, b := range slices.Backward(rows) {
		n, fault := jread.Parse([]byte(b))
		if !tree.Same(n, nodes[i]) || fault != faults[i] {
			t.Fatalf("%q: %+v, %v; then %+v, %v", b, nodes[i], faults[i], n, fault)
		}
	}
}
