package jsay_test

import (
	"bytes"
	"encoding/json"
	"fmt"
	"reflect"
	"slices"
	"strings"
	"testing"

	"gantline/api"
	"gantline/jread"
	"gantline/jsay"
	"gantline/tree"
)

// P11.1, P11.2: the document's example.
func TestExample(t *testing.T) {
	expectText(t, mapNode("a", arrayNode(intNode(false, "1"), decNode(false, "25", -1))), `{"a":[1,25e-1]}`)
	expectForm(t, `{"a":[1,2.50]}`, `{"a":[1,25e-1]}`)
}

// plain are nodes without others that can be told, and their texts.
func plain() map[string]api.Node {
	return map[string]api.Node{
		"null":                           nullNode(),
		"false":                          boolNode(0),
		"true":                           boolNode(1),
		"0":                              intNode(false, "0"),
		"7":                              intNode(false, "7"),
		"-7":                             intNode(true, "7"),
		"10":                             intNode(false, "10"),
		"-1200":                          intNode(true, "1200"),
		"18446744073709551616":           intNode(false, "18446744073709551616"),
		"-9223372036854775809":           intNode(true, "9223372036854775809"),
		strings.Repeat("9", 800):         intNode(false, strings.Repeat("9", 800)),
		"-1" + strings.Repeat("0", 799):  intNode(true, "1"+strings.Repeat("0", 799)),
		"25e-1":                          decNode(false, "25", -1),
		"-25e-1":                         decNode(true, "25", -1),
		"1e-3":                           decNode(false, "1", -3),
		"-1e-2000":                       decNode(true, "1", -2000),
		"1e800":                          decNode(false, "1", 800),
		"-12e799":                        decNode(true, "12", 799),
		"7e2000":                         decNode(false, "7", 2000),
		strings.Repeat("3", 800) + "e1":  decNode(false, strings.Repeat("3", 800), 1),
		strings.Repeat("3", 800) + "e-1": decNode(false, strings.Repeat("3", 800), -1),
		`""`:                             textNode(""),
		`"a"`:                            textNode("a"),
		`" a b "`:                        textNode(" a b "),
		`"null"`:                         textNode("null"),
		`"12"`:                           textNode("12"),
		`"[1, {}]"`:                      textNode("[1, {}]"),
	}
}

// P11.1: each Kind that can be told, alone and within others.
func TestEachKind(t *testing.T) {
	for want, n := range plain() {
		expectText(t, n, want)
		expectText(t, arrayNode(n), "["+want+"]")
		expectText(t, mapNode("k", n), `{"k":`+want+"}")
		expectText(t, arrayNode(n, arrayNode(n), n), "["+want+",["+want+"],"+want+"]")
		for _, whole := range withinKids(n) {
			expectModel(t, whole)
		}
	}
}

// P11.1: a Text's characters as they stand, and those that are escaped; as a value and as a Key.
func TestTexts(t *testing.T) {
	for s, inside := range map[string]string{
		"\"":           `\"`,
		"\\":           `\\`,
		"\b":           `\b`,
		"\t":           `\t`,
		"\n":           `\n`,
		"\f":           `\f`,
		"\r":           `\r`,
		"\x00":         `\u0000`,
		"\x01":         `\u0001`,
		"\x07":         `\u0007`,
		"\x0b":         `\u000b`,
		"\x0e":         `\u000e`,
		"\x1a":         `\u001a`,
		"\x1f":         `\u001f`,
		" ":            " ",
		"/":            "/",
		"<&>'":         "<&>'",
		"\x7f":         "\x7f",
		"\u0080":       "\u0080",
		"\u00e9":       "\u00e9",
		"\u07ff":       "\u07ff",
		"\u0800":       "\u0800",
		"\u20ac":       "\u20ac",
		"\u2028\u2029": "\u2028\u2029",
		"\ud7ff\ue000": "\ud7ff\ue000",
		"\ufeff\ufffd": "\ufeff\ufffd",
		"\uffff":       "\uffff",
		"\U00010000":   "\U00010000",
		"\U0001F600":   "\U0001F600",
		"\U0010FFFF":   "\U0010FFFF",
		`\n`:           `\\n`,
		`\u0041`:       `\\u0041`,
		"a\"b\\c/d\ne": `a\"b\\c/d\ne`,
		"\x00\x00\n ":  `\u0000\u0000\n `,
	} {
		expectText(t, textNode(s), `"`+inside+`"`)
		expectText(t, arrayNode(textNode(s), textNode("a")), `["`+inside+`","a"]`)
		expectText(t, mapNode(s, textNode(s)), `{"`+inside+`":"`+inside+`"}`)
		expectText(t, mapNode("a", mapNode(s+"!", nullNode())), `{"a":{"`+inside+`!":null}}`)
	}
	for i, sign := range strings.Fields(lowSigns) {
		expectText(t, textNode(string(rune(i))), `"`+sign+`"`)
		expectText(t, mapNode("x"+string(rune(i)), nullNode()), `{"x`+sign+`":null}`)
	}
}

// P11.1: Arrays and Maps of none, one and several, in their order, and values within values.
func TestArraysAndMaps(t *testing.T) {
	one, two := intNode(false, "1"), intNode(false, "2")
	for want, n := range map[string]api.Node{
		"[]":                                 arrayNode(),
		"[1]":                                arrayNode(one),
		"[1,2]":                              arrayNode(one, two),
		"[2,1,1]":                            arrayNode(two, one, one),
		"[[]]":                               arrayNode(arrayNode()),
		"[{}]":                               arrayNode(mapNode()),
		"[[],[]]":                            arrayNode(arrayNode(), arrayNode()),
		"[[1],2,[[2],1]]":                    arrayNode(arrayNode(one), two, arrayNode(arrayNode(two), one)),
		`[null,true,false,"x",1,1e-1,[],{}]`: arrayNode(nullNode(), boolNode(1), boolNode(0), textNode("x"), one, decNode(false, "1", -1), arrayNode(), mapNode()),
		"{}":                                 mapNode(),
		`{"a":1}`:                            mapNode("a", one),
		`{"":""}`:                            mapNode("", textNode("")),
		`{"b":1,"a":2}`:                      mapNode("b", one, "a", two),
		`{"a":"a","b":"a","c":"b"}`:          mapNode("a", textNode("a"), "b", textNode("a"), "c", textNode("b")),
		`{"a":{}}`:                           mapNode("a", mapNode()),
		`{"a":[]}`:                           mapNode("a", arrayNode()),
		`{"a":{"b":{"c":1},"d":2}}`:          mapNode("a", mapNode("b", mapNode("c", one), "d", two)),
		`{"a":[1,{"b":[2]}],"c":[{}]}`:       mapNode("a", arrayNode(one, mapNode("b", arrayNode(two))), "c", arrayNode(mapNode())),
		`[{"a":1},{"a":2},{"a":[{"a":1}]}]`:  arrayNode(mapNode("a", one), mapNode("a", two), mapNode("a", arrayNode(mapNode("a", one)))),
		`["]",{"}":"{"},",",{":":","}]`:      arrayNode(textNode("]"), mapNode("}", textNode("{")), textNode(","), mapNode(":", textNode(","))),
	} {
		expectText(t, n, want)
	}
}

// P11.1: texts of 4096 and of 4097 bytes, by one Text, a Key, escapes, characters of several bytes, numbers, and many nodes.
func TestBytesBound(t *testing.T) {
	a := func(n int) string { return strings.Repeat("a", n) }
	for name, at := range map[string]func(more int) api.Node{
		"one Text":         func(more int) api.Node { return textNode(a(mostBytes - 2 + more)) },
		"a Text in Arrays": func(more int) api.Node { return arrayNode(arrayNode(textNode(a(mostBytes - 6 + more)))) },
		"a Key":            func(more int) api.Node { return mapNode(a(mostBytes-6+more), intNode(false, "1")) },
		"a Key and a Kid":  func(more int) api.Node { return mapNode(a(2000), textNode(a(mostBytes-2007+more))) },
		"two Texts":        func(more int) api.Node { return arrayNode(textNode(a(2000)), textNode(a(mostBytes-2007+more))) },
		"short escapes":    func(more int) api.Node { return textNode(strings.Repeat("\n", 2047) + a(more)) },
		"marks":            func(more int) api.Node { return textNode(a(more) + strings.Repeat("\"", 2047)) },
		"long escapes":     func(more int) api.Node { return textNode(strings.Repeat("\x00", 682) + "aa" + a(more)) },
		"escapes of a Key": func(more int) api.Node { return mapNode(strings.Repeat("\\", 2045)+a(more), intNode(false, "1")) },
		"four bytes":       func(more int) api.Node { return textNode(strings.Repeat("\U0001F600", 1023) + "aa" + a(more)) },
		"Ints": func(more int) api.Node {
			n := row(intNode(true, strings.Repeat("9", 800)), 5)
			n.Kids = append(n.Kids, intNode(false, strings.Repeat("7", mostBytes-4012+more)))
			return n
		},
		"Decs":          func(more int) api.Node { return arrayNode(row(decNode(false, "15", -1), 681), textNode(a(4+more))) },
		"many nodes":    func(more int) api.Node { return arrayNode(row(nullNode(), 818), textNode(a(more))) },
		"many Keys":     func(more int) api.Node { return arrayNode(manyKeys(500), textNode(a(90+more))) },
		"all behind it": func(more int) api.Node { return arrayNode(textNode(a(4086+more)), arrayNode(), arrayNode()) },
		"the depth":     func(more int) api.Node { return within(textNode(a(mostBytes-90+more)), 22) },
	} {
		exact := at(0)
		if length := len(modelText(exact)); length != mostBytes {
			t.Fatalf("%s: %d bytes", name, length)
		}
		expectText(t, exact, modelText(exact))
		expectLong(t, at(1))
		expectLong(t, at(2))
	}
}

// manyKeys is a Map of many members.
func manyKeys(n int) api.Node {
	whole := mapNode()
	for i := range n {
		whole.Keys = append(whole.Keys, textNode(fmt.Sprintf("%03d", i)))
		whole.Kids = append(whole.Kids, intNode(false, "1"))
	}
	return whole
}

// P11.1: a Text of 4096 bytes may be, but its text is too long; one of 4097 may not be.
func TestLongTexts(t *testing.T) {
	for _, at := range []func(s string) api.Node{
		textNode,
		func(s string) api.Node { return arrayNode(textNode(s)) },
		func(s string) api.Node { return mapNode(s, nullNode()) },
		func(s string) api.Node { return mapNode("k", arrayNode(intNode(false, "1"), textNode(s))) },
	} {
		expectLong(t, at(strings.Repeat("a", mostBytes)))
		expectLong(t, at(strings.Repeat("\x00", mostBytes)))
		expectLong(t, at(strings.Repeat("\u00e9", mostBytes/2)))
		expectRefused(t, at(strings.Repeat("a", mostBytes+1)), api.ErrMany)
		expectRefused(t, at(strings.Repeat("\x00", mostBytes+1)), api.ErrMany)
	}
}

// P11.1: a text that is far longer than what it is made of is refused in time, and nothing behind it turns that.
func TestFarTooLong(t *testing.T) {
	inside := row(textNode(strings.Repeat("\x00", mostBytes)), 990)
	n := within(inside, mostDepth-2)
	if tree.Size(n) != mostNodes || tree.Deep(n) != mostDepth {
		t.Fatal(tree.Size(n), tree.Deep(n))
	}
	expectLong(t, n)
	expectLong(t, arrayNode(textNode(strings.Repeat("a", mostBytes)), nullNode(), arrayNode()))
	expectLong(t, arrayNode(row(textNode(strings.Repeat("a", 50)), 90), nullNode()))
}

// P11.1: trees of 1024 nodes, also with Keys, are told; those of one more are not.
func TestNodesBound(t *testing.T) {
	one := intNode(false, "1")
	most := row(one, mostNodes-1)
	expectText(t, most, "["+strings.Repeat("1,", mostNodes-2)+"1]")
	expectRefused(t, row(one, mostNodes), api.ErrMany)
	expectText(t, row(arrayNode(), mostNodes-1), "["+strings.Repeat("[],", mostNodes-2)+"[]]")
	expectRefused(t, row(arrayNode(), mostNodes), api.ErrMany)
	expectLong(t, row(nullNode(), mostNodes-1))
	expectRefused(t, row(nullNode(), mostNodes), api.ErrMany)
	keys := manyKeys(511)
	if size := tree.Size(arrayNode(keys)); size != mostNodes {
		t.Fatal(size)
	}
	expectText(t, arrayNode(keys), modelText(arrayNode(keys)))
	expectRefused(t, arrayNode(keys, one), api.ErrMany)
	expectRefused(t, arrayNode(one, keys), api.ErrMany)
}

// P11.1: trees of depth 24 are told, those of 25 are not; Keys count, too.
func TestDepthBound(t *testing.T) {
	arrays, maps := arrayNode(), mapNode()
	for range mostDepth - 1 {
		arrays, maps = arrayNode(arrays), mapNode("a", maps)
	}
	expectText(t, arrays, strings.Repeat("[", mostDepth)+strings.Repeat("]", mostDepth))
	expectText(t, maps, strings.Repeat(`{"a":`, mostDepth-1)+"{}"+strings.Repeat("}", mostDepth-1))
	expectRefused(t, arrayNode(arrays), api.ErrDeep)
	expectRefused(t, mapNode("a", maps), api.ErrDeep)
	for text, n := range plain() {
		expectText(t, within(n, mostDepth-1), strings.Repeat(`[{"k":`, 11)+"["+text+"]"+strings.Repeat("}]", 11))
		expectRefused(t, within(n, mostDepth), api.ErrDeep)
	}
	expectText(t, within(mapNode("k", nullNode()), mostDepth-2), modelText(within(mapNode("k", nullNode()), mostDepth-2)))
	expectRefused(t, within(mapNode("k", nullNode()), mostDepth-1), api.ErrDeep)
}

// mayNotBe are nodes that layer 8's Check refuses, by what it says of them.
func mayNotBe() map[api.Errno][]api.Node {
	long := strings.Repeat("9", 801)
	return map[api.Errno][]api.Node{
		api.ErrMany: {textNode(strings.Repeat("a", 4097)), bytesNode(strings.Repeat("a", 4097))},
		api.ErrUtf:  {textNode("\xFF"), textNode("a\xC3"), textNode("\xED\xA0\x80"), textNode("\xC0\x80"), textNode("\xF4\x90\x80\x80b")},
		api.ErrNum: {
			intNode(false, ""), intNode(false, "01"), intNode(true, "0"), intNode(false, "-1"), intNode(false, "1.5"), intNode(false, "1e3"), intNode(false, "a"), intNode(false, " 1"), intNode(true, long),
			decNode(false, "", -1), decNode(false, "10", -1), decNode(false, "0", 0), decNode(false, "0", -1), decNode(true, "0", 0), decNode(false, "1", 0), decNode(true, "1", 2), decNode(false, "1", 799),
			decNode(false, "01", -1), decNode(false, "1", 2001), decNode(false, "1", -2001), decNode(false, long, -1), decNode(false, "x", -1),
		},
		api.ErrKind: {
			{Kind: -1}, {Kind: 11}, {Kind: 1 << 62}, boolNode(2), boolNode(1 << 63), simpleNode(20), simpleNode(31), simpleNode(256), {Kind: api.Tag},
			{Kind: api.Tag, Kids: []api.Node{{}, {}}}, {Kind: api.Map, Keys: []api.Node{textNode("a")}}, {Kind: api.Map, Kids: []api.Node{{}}},
			{Kind: api.Map, Keys: []api.Node{textNode("a"), textNode("b")}, Kids: []api.Node{{}}},
			{Kind: api.Null, N: 1}, {Kind: api.Null, Neg: true}, {Kind: api.Null, Text: "a"}, {Kind: api.Bool, Exp: 1}, {Kind: api.Bool, Digits: "1"},
			{Kind: api.Int, Digits: "1", Exp: 2}, {Kind: api.Int, Digits: "1", N: 1}, {Kind: api.Dec, Digits: "1", Exp: -1, Text: "a"}, {Kind: api.Text, Bytes: []byte("a")},
			{Kind: api.Text, Text: "a", Kids: []api.Node{{}}}, {Kind: api.Array, Keys: []api.Node{textNode("a")}, Kids: []api.Node{{}}}, {Kind: api.Array, Text: "a"}, {Kind: api.Map, N: 1},
		},
		api.ErrTwice: {
			mapNode("a", nullNode(), "a", nullNode()), mapNode("a", nullNode(), "b", nullNode(), "a", boolNode(1)), mapNode("", arrayNode(), "", mapNode()),
			mapNode("a", mapNode("b", nullNode(), "b", nullNode())),
		},
	}
}

// P11.1: each error of layer 8's Check, at the root, as a Kid and as a Key, also deep within.
func TestErrorsOfCheck(t *testing.T) {
	for why, nodes := range mayNotBe() {
		for _, n := range nodes {
			for _, whole := range withinKids(n) {
				expectRefused(t, whole, why)
			}
			expectRefused(t, mapNode(n, nullNode()), why)
			expectRefused(t, within(mapNode("a", nullNode(), n, nullNode()), 9), why)
			expectRefused(t, within(mapNode("a", nullNode(), arrayNode(n), nullNode()), 9), why)
		}
	}
}

// notTold are nodes that may be, but can not be told in JSON.
func notTold() []api.Node {
	return []api.Node{
		floatNode(0), floatNode(0x3FF0000000000000), floatNode(0x7FF8000000000000), floatNode(1<<64 - 1),
		bytesNode(""), bytesNode("a"), bytesNode("\xFF\x00"), bytesNode(strings.Repeat("a", 4096)),
		tagNode(0, nullNode()), tagNode(1<<64-1, textNode("a")), tagNode(1, mapNode("a", arrayNode())), tagNode(4, floatNode(1)),
		simpleNode(0), simpleNode(19), simpleNode(23), simpleNode(32), simpleNode(255),
	}
}

// P11.1: each Kind that can not be told, at the root, as a Kid and as a Key, also deep within.
func TestKindsNotTold(t *testing.T) {
	for _, n := range notTold() {
		for _, whole := range withinKids(n) {
			expectRefused(t, whole, api.ErrKind)
		}
		expectRefused(t, tagNode(1, n), api.ErrKind)
		expectRefusedKey(t, n)
		expectRefusedKey(t, arrayNode(n))
	}
}

// P11.1: a Key that is not Text, though it could be told elsewhere.
func TestKeysNotText(t *testing.T) {
	for text, n := range plain() {
		if n.Kind != api.Text {
			expectRefusedKey(t, n)
		}
		expectText(t, n, text)
	}
	for _, n := range []api.Node{arrayNode(), arrayNode(textNode("a")), mapNode(), mapNode("a", textNode("b"))} {
		expectRefusedKey(t, n)
	}
}

// expectRefusedKey holds that no tree can be told in which a node is a Key, alone, and first or last of several.
func expectRefusedKey(t *testing.T, key api.Node) {
	t.Helper()
	one := intNode(false, "1")
	for _, n := range []api.Node{
		mapNode(key, one), mapNode(key, one, "b", one), mapNode("a", one, key, one), mapNode("a", one, key, one, "b", one),
		mapNode("a", mapNode(key, one)), arrayNode(one, mapNode(key, arrayNode()), one), within(mapNode("a", one, key, one), 17),
		mapNode(mapNode(key, one), one),
	} {
		expectRefused(t, n, api.ErrKind)
	}
}

// P11.1, R1: of several errors the one that is named first: Check's, wherever it is, ahead of ErrKind, and that ahead of ErrMany.
func TestErrorNamedFirst(t *testing.T) {
	long := textNode(strings.Repeat("a", mostBytes))
	for _, bad := range notTold() {
		for why, nodes := range mayNotBe() {
			for _, n := range nodes {
				expectRefused(t, arrayNode(bad, n), why)
				expectRefused(t, arrayNode(n, bad), why)
				expectRefused(t, mapNode("x", bad, "y", n), why)
				expectRefused(t, mapNode(bad, long, "y", n), why)
				expectRefused(t, arrayNode(long, bad, mapNode("z", n)), why)
				expectRefused(t, tagNode(7, n), why)
			}
		}
		expectRefused(t, arrayNode(long, bad), api.ErrKind)
		expectRefused(t, arrayNode(bad, long), api.ErrKind)
		expectRefused(t, arrayNode(long, long, within(bad, 9)), api.ErrKind)
		expectRefused(t, arrayNode(row(nullNode(), 900), bad), api.ErrKind)
		expectRefused(t, mapNode(long, bad), api.ErrKind)
		expectRefused(t, mapNode("a", long, bad, long), api.ErrKind)
		expectRefused(t, arrayNode(bad, row(nullNode(), mostNodes)), api.ErrMany)
		expectRefused(t, arrayNode(bad, within(nullNode(), mostDepth)), api.ErrDeep)
		expectRefused(t, within(bad, mostDepth), api.ErrDeep)
		expectRefused(t, mapNode(bad, nullNode(), bad, nullNode()), api.ErrTwice)
	}
	for why, nodes := range mayNotBe() {
		for _, n := range nodes {
			expectRefused(t, arrayNode(long, n), why)
			expectRefused(t, arrayNode(n, long), why)
		}
	}
	expectRefused(t, mapNode(intNode(false, "1"), nullNode(), intNode(false, "1"), nullNode()), api.ErrTwice)
	expectRefused(t, mapNode(intNode(false, "1"), long), api.ErrKind)
}

// R1: trees without an end, and such that share so many parts that they are not few, are refused, and every call ends.
func TestTreesWithoutEnd(t *testing.T) {
	kids := make([]api.Node, 1)
	kids[0] = api.Node{Kind: api.Array, Kids: kids}
	expectRefused(t, kids[0], api.ErrMany)
	keys := make([]api.Node, 1)
	keys[0] = api.Node{Kind: api.Map, Keys: keys, Kids: []api.Node{{}}}
	expectRefused(t, keys[0], api.ErrMany)
	doubled := nullNode()
	for range 60 {
		doubled = arrayNode(doubled, doubled)
	}
	expectRefused(t, doubled, api.ErrMany)
	chain := nullNode()
	for range 100_000 {
		chain = arrayNode(chain)
	}
	expectRefused(t, chain, api.ErrMany)
	expectRefused(t, row(nullNode(), 1_000_000), api.ErrMany)
	expectRefused(t, textNode(strings.Repeat("a", 1_000_000)), api.ErrMany)
	expectRefused(t, intNode(false, strings.Repeat("1", 1_000_000)), api.ErrNum)
	expectRefused(t, api.Node{Kind: api.Null, Keys: make([]api.Node, 5)}, api.ErrKind)
	expectRefused(t, api.Node{Kind: api.Null, Keys: make([]api.Node, 5000)}, api.ErrMany)
}

// P11.2: texts with gaps, with other escapes and with numbers in other forms.
func TestForm(t *testing.T) {
	for b, want := range map[string]string{
		" null ":                            "null",
		"\ttrue\r\n":                        "true",
		"\n false":                          "false",
		`[ 1.50 , "a" ]`:                    `[15e-1,"a"]`,
		" [ ] ":                             "[]",
		"{\t}":                              "{}",
		" { \"a\" : 1 , \"b\"\n:\r[ ] } ":   `{"a":1,"b":[]}`,
		`{"b":1,"a":2}`:                     `{"b":1,"a":2}`,
		`" a  b "`:                          `" a  b "`,
		`"\/"`:                              `"/"`,
		`"\u0041\u0062"`:                    `"Ab"`,
		`"\u0022\u005C\u005c\u002f"`:        `"\"\\\\/"`,
		`"\u0008\u0009\u000a\u000C\u000D"`:  `"\b\t\n\f\r"`,
		`"\u0000\u001F\u000B"`:              `"\u0000\u001f\u000b"`,
		`"\u007f\u0020"`:                    "\"\x7f \"",
		`"\u00E9\u20aC"`:                    "\"\u00e9\u20ac\"",
		`"\uD83D\uDE00\u2028"`:              "\"\U0001F600\u2028\"",
		`{"\u0061\/":"\u0061"}`:             `{"a/":"a"}`,
		"-0":                                "0",
		"0.000":                             "0",
		"-0.0e-7":                           "0",
		"0e99999999999999999999":            "0",
		"1.0":                               "1",
		"-20.00":                            "-20",
		"1E2":                               "100",
		"1e+2":                              "100",
		"-1.50e3":                           "-1500",
		"100e-2":                            "1",
		"1.50":                              "15e-1",
		"15e-1":                             "15e-1",
		"-0.001":                            "-1e-3",
		"123.4500E+1":                       "12345e-1",
		"10e-2":                             "1e-1",
		"1e799":                             "1" + strings.Repeat("0", 799),
		"1e800":                             "1e800",
		"10e800":                            "1e801",
		"-1.2E+801":                         "-12e800",
		"10e1999":                           "1e2000",
		"0.1e-1999":                         "1e-2000",
		"1" + strings.Repeat("0", 900):      "1e900",
		"[1,1.0,10e-1,0.1e1]":               "[1,1,1,1]",
		`[[ [1 ,{ }] ],{"x" : { "y":[] }}]`: `[[[1,{}]],{"x":{"y":[]}}]`,
	} {
		expectForm(t, b, want)
		expectForm(t, want, want)
		expectForm(t, "[\n"+b+", "+b+"]", "["+want+","+want+"]")
		expectForm(t, `{ "\u006b" :`+b+"}", `{"k":`+want+"}")
	}
}

// P11.2: texts that layer 10 refuses: each fault, and its place, as layer 10 tells it.
func TestFormFaults(t *testing.T) {
	deep := strings.Repeat("[", mostDepth)
	for b, want := range map[string]api.Fault{
		"":                               {Why: api.ErrEnd, At: 0},
		"  ":                             {Why: api.ErrEnd, At: 2},
		"[":                              {Why: api.ErrEnd, At: 1},
		`{"a":`:                          {Why: api.ErrEnd, At: 5},
		`[1, "a`:                         {Why: api.ErrEnd, At: 6},
		"tru":                            {Why: api.ErrEnd, At: 3},
		"-":                              {Why: api.ErrEnd, At: 1},
		"]":                              {Why: api.ErrForm, At: 0},
		"[1,]":                           {Why: api.ErrForm, At: 3},
		" x":                             {Why: api.ErrForm, At: 1},
		`{"a" 1}`:                        {Why: api.ErrForm, At: 5},
		"{1:2}":                          {Why: api.ErrForm, At: 1},
		`"\x"`:                           {Why: api.ErrForm, At: 2},
		"\"\n\"":                         {Why: api.ErrForm, At: 1},
		"\"a\xFF\"":                      {Why: api.ErrUtf, At: 2},
		"\"\xED\xA0\x80\"":               {Why: api.ErrUtf, At: 2},
		deep + "[":                       {Why: api.ErrDeep, At: mostDepth},
		deep + "1":                       {Why: api.ErrDeep, At: mostDepth},
		"[" + strings.Repeat("0,", 1023): {Why: api.ErrEnd, At: 2047},
		"[" + strings.Repeat("0,", 1024): {Why: api.ErrMany, At: 2047},
		strings.Repeat(" ", 4097):        {Why: api.ErrMany, At: 0},
		"1" + strings.Repeat(" ", 4096):  {Why: api.ErrMany, At: 0},
		`{"a":1,"a":2}`:                  {Why: api.ErrTwice, At: 7},
		`[{"a":1,"\u0061":2}]`:           {Why: api.ErrTwice, At: 8},
		"1 2":                            {Why: api.ErrMore, At: 2},
		"[]]":                            {Why: api.ErrMore, At: 2},
		"[1e2001]":                       {Why: api.ErrNum, At: 1},
		" " + strings.Repeat("9", 801):   {Why: api.ErrNum, At: 1},
	} {
		expectFault(t, b, want.Why, want.At)
		if _, fault := jread.Parse([]byte(b)); fault != want {
			t.Fatalf("%q: layer 10 says %v", b, fault)
		}
	}
}

// P11.2: texts that may be read, but whose own text is too long: by numbers that are told with more bytes than they were written with.
func TestFormTooLong(t *testing.T) {
	for _, item := range []string{"1e799", "0.1", "1.5", "-1.5", "1e9"} {
		count := min(mostNodes-2, 4000/(len(item)+1))
		long := "[" + strings.Repeat(item+",", count) + "0]"
		if n, fault := jread.Parse([]byte(long)); fault.Why != api.OK || len(modelText(n)) <= mostBytes {
			t.Fatalf("%s: %v, %d bytes", item, fault, len(modelText(n)))
		}
		expectFault(t, long, api.ErrMany, 0)
		expectFault(t, " "+long, api.ErrMany, 0)
	}
	five := strings.Repeat("1e799,", 5)
	whole := strings.Repeat("1"+strings.Repeat("0", 799)+",", 5)
	fill := strings.Repeat("a", mostBytes-4009)
	expectForm(t, "["+five+`"`+fill+`"]`, "["+whole+`"`+fill+`"]`)
	expectFault(t, "["+five+`"`+fill+`a"]`, api.ErrMany, 0)
	expectFault(t, `[`+five+`{"`+fill+`":1}]`, api.ErrMany, 0)
	expectForm(t, "["+five+`"`+strings.Repeat(`\u0061`, mostBytes-4009)+`"]`, "["+whole+`"`+fill+`"]`)
	expectFault(t, "["+five+`"`+strings.Repeat(`\u0061`, mostBytes-4008)+`"]`, api.ErrMany, 0)
	// A text of 4096 bytes that is its own form.
	most := `"` + strings.Repeat("a", mostBytes-2) + `"`
	expectForm(t, most, most)
}

// P11.1: trees by chance, right ones and such with something wrong in them, against the model; what is told is read as the tree, is its own form, and has no gaps (P11.3, P11.4).
func TestChanceAgainstModel(t *testing.T) {
	c := chance(111)
	found := map[api.Errno]int{}
	for i := range 8000 {
		n := c.tree(1 + c.below(6))
		for range i % 3 {
			c.put(&n, c.wrong())
		}
		if c.below(10) == 0 {
			c.put(&n, textNode(strings.Repeat(c.of("a", "\n", "\u20ac"), 900+c.below(600))))
		}
		found[expectModel(t, n)]++
	}
	for _, why := range []api.Errno{api.OK, api.ErrMany, api.ErrUtf, api.ErrTwice, api.ErrNum, api.ErrKind} {
		if found[why] < 30 {
			t.Fatal("too few of", why, found)
		}
	}
}

// P11.1: trees by chance whose texts have near 4096 bytes, against the model.
func TestChanceNearBound(t *testing.T) {
	c := chance(112)
	found := map[api.Errno]int{}
	for range 300 {
		n := arrayNode(c.tree(6), nullNode(), c.tree(5))
		room := mostBytes - len(modelText(n)) + len("null") - len(`""`)
		if room < 10 {
			continue
		}
		n.Kids[1] = textNode(strings.Repeat("a", room-2+c.below(5)))
		found[expectModel(t, n)]++
	}
	if found[api.OK] < 50 || found[api.ErrMany] < 50 {
		t.Fatal("too few on one side:", found)
	}
}

// P11.2, P11.4: texts by chance, in other forms, and spoiled ones, against the model.
func TestFormByChance(t *testing.T) {
	c := chance(113)
	found := map[api.Errno]int{}
	for i := range 6000 {
		n := c.tree(1 + c.below(5))
		b := c.gap() + c.otherText(n) + c.gap()
		if i%2 == 0 && len(b) <= mostBytes {
			if text := modelText(n); len(text) <= mostBytes {
				expectForm(t, b, text)
			}
		}
		if i%2 == 1 {
			at := c.below(len(b) + 1)
			b = b[:at] + c.of("", " ", "]", ",", "1", "\"", "x", "\xFF") + b[min(len(b), at+c.below(3)):]
		}
		found[expectFormModel(t, b)]++
		expectFormOfForm(t, b)
	}
	for _, why := range []api.Errno{api.OK, api.ErrEnd, api.ErrForm, api.ErrUtf, api.ErrMore} {
		if found[why] < 30 {
			t.Fatal("too few of", why, found)
		}
	}
}

// expectFormOfForm holds that a form is its own form, and of the same tree.
func expectFormOfForm(t *testing.T, b string) {
	t.Helper()
	once, fault := jsay.Form([]byte(b))
	if fault.Why != api.OK {
		return
	}
	expectForm(t, string(once), string(once))
	was, _ := jread.Parse([]byte(b))
	if is, _ := jread.Parse(once); !tree.Same(was, is) {
		t.Fatalf("%q is %s, its form %q is %s", b, small(was), once, small(is))
	}
	expectNoGaps(t, once)
}

// P11.3: what is printed says the same to the library's reader.
func TestLibraryReads(t *testing.T) {
	c := chance(114)
	for range 2000 {
		n := c.tree(5)
		text, why := jsay.Print(n)
		if why != api.OK {
			continue
		}
		d := json.NewDecoder(bytes.NewReader(text))
		d.UseNumber()
		var got any
		if err := d.Decode(&got); err != nil || !reflect.DeepEqual(got, libraryValue(n)) {
			t.Fatalf("%s of %s is %v, %v", small(text), small(n), got, err)
		}
	}
}

// libraryValue is what the library's reader makes of a tree's text.
func libraryValue(n api.Node) any {
	switch n.Kind {
	case api.Bool:
		return n.N == 1
	case api.Int, api.Dec:
		return json.Number(modelText(n))
	case api.Text:
		return n.Text
	case api.Array:
		list := []any{}
		for _, kid := range n.Kids {
			list = append(list, libraryValue(kid))
		}
		return list
	case api.Map:
		members := map[string]any{}
		for i, key := range n.Keys {
			members[key.Text] = libraryValue(n.Kids[i])
		}
		return members
	}
	return nil
}

// P11.5: trees that differ in little have unlike texts.
func TestUnlikeTexts(t *testing.T) {
	one, two := intNode(false, "1"), intNode(false, "2")
	nodes := []api.Node{
		textNode("1"), textNode("-1"), textNode("1e-1"), textNode("true"), textNode("[]"), textNode("{}"), textNode("a,b"), textNode(`"`), textNode(`\"`), textNode("\n"), textNode(`\n`), textNode("\u00e9"), textNode("e\u0301"),
		one, intNode(true, "1"), intNode(false, "10"), decNode(false, "1", -1), decNode(true, "1", -1), decNode(false, "1", 800), decNode(false, "1", -800), decNode(false, "11", -1), decNode(false, "1", -11),
		arrayNode(), arrayNode(one), arrayNode(one, two), arrayNode(two, one), arrayNode(intNode(false, "12")), arrayNode(arrayNode(one), two), arrayNode(arrayNode(one, two)), arrayNode(one, arrayNode(two)), arrayNode(textNode("1,2")),
		arrayNode(textNode("a"), textNode("b")), arrayNode(textNode(`a","b`)), arrayNode(textNode("a,b")), arrayNode(arrayNode()), arrayNode(arrayNode(), arrayNode()), arrayNode(mapNode()),
		mapNode(), mapNode("a", one), mapNode("a", two), mapNode("b", one), mapNode("a", one, "b", two), mapNode("b", two, "a", one), mapNode("a", two, "b", one), mapNode("a", mapNode("b", two)), mapNode(`a":1,"b`, two), mapNode("a", textNode("1")), mapNode("a", arrayNode(one)),
		mapNode("", one), mapNode(" ", one), mapNode("a", nullNode()),
	}
	for text, n := range plain() {
		if text != "7" && text != `"a"` {
			nodes = append(nodes, n)
		}
	}
	expectUnlike(t, nodes)
	var all []api.Node
	for _, a := range nodes[:40] {
		for _, b := range nodes[:40] {
			all = append(all, arrayNode(a, b), arrayNode(arrayNode(a), b), mapNode("a", a, "b", b))
		}
	}
	expectUnlike(t, all)
	c := chance(115)
	all = nil
	for range 3000 {
		all = append(all, c.tree(3))
	}
	expectUnlike(t, all)
}

// expectUnlike holds that texts are alike just where the trees are the same.
func expectUnlike(t *testing.T, nodes []api.Node) {
	t.Helper()
	first := map[string]api.Node{}
	for _, n := range nodes {
		text, why := jsay.Print(n)
		if why != api.OK {
			if len(modelText(n)) <= mostBytes {
				t.Fatalf("Print(%s) is %v", small(n), why)
			}
			continue
		}
		other, found := first[string(text)]
		if found && !tree.Same(other, n) {
			t.Fatalf("%s and %s are both %s", small(other), small(n), small(text))
		}
		first[string(text)] = n
	}
}

// R1: Form ends at all bytes, and answers as layer 10 does.
func TestFormAnyBytes(t *testing.T) {
	c := chance(116)
	for range 3000 {
		b := make([]byte, c.below(40))
		for i := range b {
			b[i] = byte(c.next())
		}
		expectFormModel(t, string(b))
	}
	for x := range 256 {
		for y := range 256 {
			expectFormModel(t, string([]byte{byte(x), byte(y)}))
		}
	}
	expectFault(t, strings.Repeat("[", 1_000_000), api.ErrMany, 0)
}

// R6: lists that are nil and lists that are empty are the same.
func TestEmptyLists(t *testing.T) {
	none := []api.Node{}
	for want, n := range map[string]api.Node{
		"null":   {Kind: api.Null, Bytes: []byte{}, Keys: none, Kids: none},
		"true":   {Kind: api.Bool, N: 1, Kids: none},
		"12":     {Kind: api.Int, Digits: "12", Keys: none},
		"1e-1":   {Kind: api.Dec, Digits: "1", Exp: -1, Bytes: []byte{}},
		`"a"`:    {Kind: api.Text, Text: "a", Bytes: []byte{}, Keys: none, Kids: none},
		"[]":     {Kind: api.Array, Keys: none, Kids: none},
		"[[]]":   {Kind: api.Array, Keys: none, Kids: []api.Node{{Kind: api.Array, Kids: none}}},
		"{}":     {Kind: api.Map, Keys: none, Kids: none},
		"[{}]":   {Kind: api.Array, Kids: []api.Node{{Kind: api.Map, Keys: none, Bytes: []byte{}}}},
		"[[],0]": arrayNode(api.Node{Kind: api.Array, Kids: none}, intNode(false, "0")),
	} {
		expectText(t, n, want)
	}
	expectRefused(t, api.Node{Kind: api.Bytes, Bytes: []byte{}}, api.ErrKind)
	expectRefused(t, api.Node{Kind: api.Bytes}, api.ErrKind)
	for _, b := range [][]byte{nil, {}} {
		if got, fault := jsay.Form(b); len(got) != 0 || fault != (api.Fault{Why: api.ErrEnd}) {
			t.Fatal(got, fault)
		}
	}
}

// copied is a tree in memory of its own.
func copied(n api.Node) api.Node {
	n.Bytes, n.Keys, n.Kids = slices.Clone(n.Bytes), slices.Clone(n.Keys), slices.Clone(n.Kids)
	for i := range n.Keys {
		n.Keys[i] = copied(n.Keys[i])
	}
	for i := range n.Kids {
		n.Kids[i] = copied(n.Kids[i])
	}
	return n
}

// R4: trees that are handed in, right and wrong ones, do not turn.
func TestTreesDoNotTurn(t *testing.T) {
	c := chance(117)
	for i := range 1500 {
		n := c.tree(5)
		if i%2 == 0 {
			c.put(&n, c.wrong())
		}
		kept := copied(n)
		jsay.Can(n)
		jsay.Print(n)
		if !reflect.DeepEqual(n, kept) {
			t.Fatalf("%s has become %s", small(kept), small(n))
		}
	}
}

// R4: nothing is written behind the end of lists that are handed in, where there is room.
func TestRoomDoesNotTurn(t *testing.T) {
	kids := []api.Node{textNode("a"), textNode("b"), textNode("c")}
	keys := []api.Node{textNode("x"), textNode("y"), textNode("z")}
	n := api.Node{Kind: api.Map, Keys: keys[:1], Kids: kids[:1]}
	expectText(t, n, `{"x":"a"}`)
	expectText(t, arrayNode(kids[:2]...), `["a","b"]`)
	if got := modelText(arrayNode(slices.Concat(kids, keys)...)); got != `["a","b","c","x","y","z"]` {
		t.Fatal(got)
	}
}

// R4: bytes that are handed in, and the room behind them, stay as they are, and are not looked at there.
func TestBytesDoNotTurn(t *testing.T) {
	for _, head := range []string{"", `{"a":[1,2.50]}`, `{"a":[1,25e-1]}`, `{"a":[1`, `"a\u0041`, "1", "tru", "[1,", "x", "\"\xFF", `{"a":1,"a":2}`} {
		kept := []byte(head + `0],}"e` + "\xA9")
		all := slices.Clone(kept)
		expectFormModel(t, head)
		got, fault := jsay.Form(all[:len(head)])
		want, why := jsay.Form([]byte(head))
		if !bytes.Equal(got, want) || fault != why || !bytes.Equal(all, kept) {
			t.Fatalf("%q: %q, %v; %q has become %q", head, got, fault, kept, all)
		}
	}
}

// overwrite writes over bytes, and over the room behind them.
func overwrite(b []byte) {
	whole := b[:cap(b)]
	for i := range whole {
		whole[i] = '#'
	}
}

// R4: what was answered may be written over, and so may what was handed in, without turning anything else.
func TestAnswersAreTheCallers(t *testing.T) {
	for want, n := range plain() {
		for _, whole := range []api.Node{n, arrayNode(n, n), mapNode("k", n)} {
			kept := copied(whole)
			one, _ := jsay.Print(whole)
			two, _ := jsay.Print(whole)
			overwrite(one)
			if string(two) != modelText(kept) || !reflect.DeepEqual(whole, kept) {
				t.Fatalf("%s: %s, %s", want, small(two), small(whole))
			}
			expectText(t, whole, modelText(kept))
		}
	}
	for _, text := range []string{"null", "[]", "{}", "true", `"abc"`, "12", `{"abc":["def",12,15e-1,[[],{"x":null}]],"g":{"h":[true]}}`} {
		b := []byte(text)
		one, _ := jsay.Form(b)
		two, _ := jsay.Form(b)
		overwrite(one)
		if string(b) != text {
			t.Fatalf("%s has become %s", text, b)
		}
		overwrite(b)
		if string(two) != text {
			t.Fatalf("%s has become %s", text, two)
		}
		expectForm(t, text, text)
	}
}

// R3: the same calls have the same answers, whatever was called between.
func TestSameAnswers(t *testing.T) {
	c := chance(118)
	var nodes []api.Node
	var texts []string
	for i := range 500 {
		n := c.tree(5)
		if i%3 == 0 {
			c.put(&n, c.wrong())
		}
		text, why := jsay.Print(n)
		nodes, texts = append(nodes, n), append(texts, fmt.Sprint(jsay.Can(n), why, string(text)))
	}
	for i, n := range slices.Backward(nodes) {
		text, why := jsay.Print(n)
		if got := fmt.Sprint(jsay.Can(n), why, string(text)); got != texts[i] {
			t.Fatalf("%s: %s, then %s", small(n), texts[i], got)
		}
	}
}
