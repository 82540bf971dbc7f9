package jlex_test

import (
	"bytes"
	"encoding/json"
	"fmt"
	"math"
	"slices"
	"strings"
	"testing"
	"unicode/utf8"
	"unsafe"

	"gantline/api"
	"gantline/jlex"
)

// edgeRunes are the least and the greatest characters of each count of bytes, and those around the numbers that are none.
var edgeRunes = []rune{0, 31, 32, 127, 0x80, 0x7FF, 0x800, 0xD7FF, 0xE000, 0xFFFD, 0xFFFF, 0x10000, 0x1F600, 0x10FFFF}

// P9.1: the document's example.
func TestExample(t *testing.T) {
	expectLex(t, []byte(`["a\u0041", -1.5e2]`), []api.Token{
		{Kind: openArray, From: 0, To: 1},
		{Kind: quoted, From: 1, To: 10, Text: "aA"},
		{Kind: comma, From: 10, To: 11},
		{Kind: number, From: 12, To: 18, Text: "-1.5e2"},
		{Kind: closeArray, From: 18, To: 19},
	}, api.Fault{})
}

// P9.1: the document's kinds, each alone, with its places and its text, behind nothing and behind a gap.
func TestEachKind(t *testing.T) {
	for _, k := range []struct {
		kind    int
		b, text string
	}{
		{1, "{", ""}, {2, "}", ""}, {3, "[", ""}, {4, "]", ""}, {5, ":", ""}, {6, ",", ""},
		{7, `"ab"`, "ab"}, {8, "-12.50E+3", "-12.50E+3"}, {9, "true", ""}, {10, "false", ""}, {11, "null", ""},
	} {
		expectLex(t, []byte(k.b), []api.Token{{Kind: k.kind, From: 0, To: len(k.b), Text: k.text}}, api.Fault{})
		expectLex(t, []byte("\n "+k.b+"\t"), []api.Token{{Kind: k.kind, From: 2, To: 2 + len(k.b), Text: k.text}}, api.Fault{})
	}
}

// P9.1, R6: no bytes, and gaps alone, are no tokens and no fault.
func TestNoTokens(t *testing.T) {
	for _, b := range [][]byte{nil, {}, []byte(" "), []byte("\t"), []byte("\n"), []byte("\r"), []byte(" \t\r\n\n "), bytes.Repeat([]byte(" "), mostBytes)} {
		expectLex(t, b, nil, api.Fault{})
	}
}

// P9.1, P9.5: tokens in a row with each gap, several gaps and none between them.
func TestRows(t *testing.T) {
	parts := []string{"{", `"a"`, ":", "[", "1", ",", "-2.5", ",", "true", ",", "false", ",", "null", "]", ",", `""`, ":", "{", "}", "}"}
	for _, between := range []string{"", " ", "\t", "\n", "\r", "\r\n", " \t\n\r "} {
		var want []api.Token
		at := 0
		for i, part := range parts {
			if i > 0 {
				at += len(between)
			}
			token := api.Token{Kind: kindOf(part[0]), From: at, To: at + len(part)}
			switch token.Kind {
			case quoted:
				token.Text = part[1 : len(part)-1]
			case number:
				token.Text = part
			}
			want = append(want, token)
			at = token.To
		}
		expectLex(t, []byte(strings.Join(parts, between)), want, api.Fault{})
	}
}

// P9.1: bytes that are no gap and begin no token are a fault where they stand; every byte alone and behind a token.
func TestEachFirstByte(t *testing.T) {
	for x := range 256 {
		b := []byte{byte(x)}
		expectModel(t, b)
		expectModel(t, append([]byte("[ "), b...))
		expectModel(t, append([]byte(`"a"`), b...))
		expectModel(t, append([]byte("1"), b...))
		switch {
		case strings.IndexByte(" \t\n\r", b[0]) >= 0:
			expectLex(t, b, nil, api.Fault{})
		case strings.IndexByte("{}[]:,0123456789", b[0]) >= 0:
			if got, fault := jlex.Lex(b); len(got) != 1 || fault.Why != api.OK {
				t.Fatal(x, got, fault)
			}
		case strings.IndexByte(`"-tfn`, b[0]) >= 0:
			expectFault(t, b, 0, api.ErrEnd, 1)
		default:
			expectFault(t, b, 0, api.ErrForm, 0)
			expectFault(t, append([]byte("[ "), b...), 1, api.ErrForm, 2)
		}
	}
}

// P9.1: 4096 bytes are read, 4097 are not, be they tokens, a long one, gaps or wrong; the fault is then at 0, with no tokens.
func TestBytesBound(t *testing.T) {
	many := bytes.Repeat([]byte("["), mostBytes)
	if tokens, fault := jlex.Lex(many); len(tokens) != mostBytes || fault.Why != api.OK || tokens[mostBytes-1] != (api.Token{Kind: openArray, From: mostBytes - 1, To: mostBytes}) {
		t.Fatal(len(tokens), fault)
	}
	long := `"` + strings.Repeat("a", mostBytes-2) + `"`
	expectLex(t, []byte(long), []api.Token{{Kind: quoted, To: mostBytes, Text: long[1 : mostBytes-1]}}, api.Fault{})
	digits := strings.Repeat("9", mostBytes)
	expectLex(t, []byte(digits), []api.Token{{Kind: number, To: mostBytes, Text: digits}}, api.Fault{})
	expectFault(t, []byte(long[:mostBytes-1]+"a"), 0, api.ErrEnd, mostBytes)
	expectFault(t, append(many[:mostBytes-1:mostBytes-1], 'x'), mostBytes-1, api.ErrForm, mostBytes-1)
	for _, b := range []string{string(many) + "[", long + " ", digits + "9", strings.Repeat(" ", mostBytes+1), "x" + digits, `"` + digits, `"` + "\xFF" + digits, strings.Repeat("[", 100_000)} {
		expectFault(t, []byte(b), 0, api.ErrMany, 0)
	}
}

// P9.1: numbers as far as layer 6's grammar goes: their own text, as it stands.
func TestNumbers(t *testing.T) {
	for _, s := range []string{
		"0", "-0", "1", "9", "-1", "10", "1234567890", "0.0", "-0.0", "1.0", "1.50", "0.001", "1e0", "1E0", "1e5", "1e+5", "1E-5", "0e0", "-0.0e-00",
		"1.5e00007", "-12.340E+056", "1e2001", "1e-99999999999999999999", strings.Repeat("1", 801), "0." + strings.Repeat("0", 4000) + "1", strings.Repeat("7", 4000) + "e9999",
	} {
		expectLex(t, []byte(s), []api.Token{{Kind: number, To: len(s), Text: s}}, api.Fault{})
		for _, behind := range []string{" ", ",", "]", "}", ":", "[", "\"\"", "true", "-7", "\n"} {
			tokens, fault := jlex.Lex([]byte("[" + s + behind))
			if fault.Why != api.OK || len(tokens) < 2 || tokens[1] != (api.Token{Kind: number, From: 1, To: 1 + len(s), Text: s}) {
				t.Fatalf("[%s%s is %+v, %v", s, behind, tokens, fault)
			}
		}
	}
}

// P9.1: a number that wants more ends too early, or at a byte with which it does not go on; the whole tokens ahead are told.
func TestNumbersCut(t *testing.T) {
	for _, s := range []string{"-", "1.", "0.", "-0.", "10.", "1e", "1E", "1e+", "1E-", "1.5e", "1.5e-", "0e", "-0E+"} {
		expectFault(t, []byte(s), 0, api.ErrEnd, len(s))
		expectFault(t, []byte("[ "+s), 1, api.ErrEnd, 2+len(s))
		for _, x := range []string{" ", ",", "]", "\"", ".", "e", "x", "\x00", "\xFF", "\u00e9", "t"} {
			expectFault(t, []byte(s+x), 0, api.ErrForm, len(s))
			expectFault(t, []byte("[ "+s+x+"1"), 1, api.ErrForm, 2+len(s))
		}
	}
	for _, s := range []string{"--", "-+", "-.", "-e", "-a", "1.-", "1.+", "1e++", "1e+-", "1e--", "-t"} {
		expectFault(t, []byte(s+"1"), 0, api.ErrForm, len(s)-1)
	}
	for _, s := range []string{"1+", "1.5.", "0x", "1e5.", "1e5e", "1e5E", "1e5+", "12a", "0.1f1", "1_"} {
		expectModel(t, []byte(s))
	}
	expectFault(t, []byte("1.5.2"), 1, api.ErrForm, 3)
	expectFault(t, []byte("1e5e2"), 1, api.ErrForm, 3)
	expectFault(t, []byte("0x1"), 1, api.ErrForm, 1)
	expectFault(t, []byte("+1"), 0, api.ErrForm, 0)
	expectFault(t, []byte(".5"), 0, api.ErrForm, 0)
}

// P9.1: tokens that stand behind each other without a gap are apart.
func TestWithoutGap(t *testing.T) {
	for b, parts := range map[string][]string{
		"01":           {"0", "1"},
		"00":           {"0", "0"},
		"-01":          {"-0", "1"},
		"0123.50":      {"0", "123.50"},
		"1-2":          {"1", "-2"},
		"1.5-3e1-4":    {"1.5", "-3e1", "-4"},
		"truefalse":    {"true", "false"},
		"nullnull":     {"null", "null"},
		"1true":        {"1", "true"},
		"true1":        {"true", "1"},
		`"a""b"`:       {`"a"`, `"b"`},
		`1"a"2`:        {"1", `"a"`, "2"},
		`null"a"false`: {"null", `"a"`, "false"},
		"[[]]{}":       {"[", "[", "]", "]", "{", "}"},
	} {
		var want []api.Token
		at := 0
		for _, part := range parts {
			want = append(want, tokenOf([]byte(b), at, at+len(part)))
			at += len(part)
		}
		expectLex(t, []byte(b), want, api.Fault{})
		expectModel(t, []byte(b))
	}
}

// P9.1: words that are cut off, and words with a wrong byte at each of their places.
func TestWords(t *testing.T) {
	for _, word := range []string{"true", "false", "null"} {
		for n := 1; n < len(word); n++ {
			expectFault(t, []byte(word[:n]), 0, api.ErrEnd, n)
			expectFault(t, []byte("[,"+word[:n]), 2, api.ErrEnd, 2+n)
			for x := range 256 {
				if byte(x) == word[n] {
					continue
				}
				b := word[:n] + string([]byte{byte(x)})
				expectFault(t, []byte(b), 0, api.ErrForm, n)
				expectFault(t, []byte("[,"+b+word[n:]), 2, api.ErrForm, 2+n)
			}
		}
	}
	for _, s := range []string{"True", "TRUE", "Null", "False", "undefined", "NaN", "Infinity", "/**/", "'a'", "\uFEFF[]", "\u00a0", "\v", "\f"} {
		expectFault(t, []byte(s), 0, api.ErrForm, 0)
	}
}

// P9.1, P9.2: characters as they stand, of one to four bytes, every one of the one-byte kind, and the string of nothing.
func TestPlainCharacters(t *testing.T) {
	expectMeaning(t, "", "")
	for x := byte(32); x < 128; x++ {
		if x != '"' && x != '\\' {
			expectMeaning(t, string(rune(x)), string(rune(x)))
		}
	}
	for _, r := range edgeRunes[2:] {
		expectMeaning(t, string(r), string(r))
		expectMeaning(t, "a"+string(r)+string(r)+"b", "a"+string(r)+string(r)+"b")
	}
	expectMeaning(t, "/'{}[]:,true 1", "/'{}[]:,true 1")
	expectMeaning(t, "\x7f\u2028\u2029\uFEFF", "\x7f\u2028\u2029\uFEFF")
}

// P9.1, P9.2: a byte below 32 may not stand in a string; every one of them, ahead, among and behind characters.
func TestLowBytes(t *testing.T) {
	for x := range 32 {
		for _, ahead := range []string{"", "a", "\u00e9", `\n`, `\u0041`, `\uD83D\uDE00`} {
			expectInside(t, ahead+string(rune(x))+`a"`, api.ErrForm, len(ahead))
		}
	}
}

// P9.1, P9.2: the escapes of one sign, and every other byte behind a \.
func TestShortEscapes(t *testing.T) {
	known := map[byte]string{'"': "\x22", '\\': "\x5c", '/': "\x2f", 'b': "\x08", 'f': "\x0c", 'n': "\x0a", 'r': "\x0d", 't': "\x09"}
	for x := range 256 {
		sign := string([]byte{byte(x)})
		text, ok := known[byte(x)]
		switch {
		case ok:
			expectMeaning(t, `\`+sign, text)
			expectMeaning(t, `a\`+sign+`\`+sign+"b", "a"+text+text+"b")
		case x == 'u':
			expectInside(t, `\u`, api.ErrEnd, 2)
		case x >= 0x80 && (x < 0xC2 || x > 0xF4): // no character begins with it
			expectInside(t, `\`+sign+`"`, api.ErrUtf, 1)
		default:
			expectInside(t, `\`+sign+`"`, api.ErrForm, 1)
			expectInside(t, `\`+sign, api.ErrForm, 1)
		}
	}
}

// P9.1, P9.2: \u with small and great digits: every number but those of pairs is its character.
func TestNumbersOfCharacters(t *testing.T) {
	for n := range 0x10000 {
		if n >= 0xD800 && n <= 0xDFFF {
			continue
		}
		for _, form := range []string{`\u%04x`, `\u%04X`} {
			b := []byte(`"` + fmt.Sprintf(form, n) + `"`)
			if text, to, fault := jlex.String(b, 0); text != string(rune(n)) || to != 8 || fault.Why != api.OK {
				t.Fatalf("%s is %q, %d, %v", b, text, to, fault)
			}
		}
	}
	expectMeaning(t, `\u00e9\u00E9\u00aF\u20Ac`, "\u00e9\u00e9\u00af\u20ac")
	expectMeaning(t, `\u0000`, "\x00")
	expectMeaning(t, `\u00411`, "A1")
	expectMeaning(t, `\u0022\u005c\u001f`, "\"\\\x1f")
	expectMeaning(t, `\uD7FF\uE000\uFFFD\uFFFF`, "\uD7FF\uE000\uFFFD\uFFFF")
}

// P9.1, P9.2: wrong bytes at each digit of \u, and ends there.
func TestDigitsWrong(t *testing.T) {
	for n := range 4 {
		ahead := `\u` + "00e9"[:n]
		expectInside(t, ahead, api.ErrEnd, len(ahead))
		for x := range 256 {
			sign := string([]byte{byte(x)})
			switch {
			case strings.Contains("0123456789abcdefABCDEF", sign):
			case x >= 0x80 && (x < 0xC2 || x > 0xF4):
				expectInside(t, ahead+sign+`000"`, api.ErrUtf, len(ahead))
			default:
				expectInside(t, ahead+sign+`000"`, api.ErrForm, len(ahead))
			}
		}
	}
	expectInside(t, `\U0041"`, api.ErrForm, 1)
	expectInside(t, `\u+041"`, api.ErrForm, 2)
	expectInside(t, `\u 041"`, api.ErrForm, 2)
	expectInside(t, `\u{41}"`, api.ErrForm, 2)
}

// P9.1, P9.2: pairs, the least and the greatest of each half, in small and great digits.
func TestPairs(t *testing.T) {
	for inside, r := range map[string]rune{
		`\uD800\uDC00`: 0x10000,
		`\uD800\uDFFF`: 0x103FF,
		`\uD801\uDC00`: 0x10400,
		`\uDBFF\uDC00`: 0x10FC00,
		`\uDBFF\uDFFF`: 0x10FFFF,
		`\ud83d\ude00`: 0x1F600,
		`\uD83d\udE00`: 0x1F600,
	} {
		expectMeaning(t, inside, string(r))
		expectMeaning(t, `a`+inside+inside+`\u0041b`, "a"+string(r)+string(r)+"Ab")
	}
	for r := rune(0x10000); r <= 0x10FFFF; r += 0x3FB {
		rest := r - 0x10000
		expectMeaning(t, fmt.Sprintf(`\u%04x\u%04X`, 0xD800+rest/0x400, 0xDC00+rest%0x400), string(r))
	}
}

// P9.1, P9.2: halves alone and in a wrong order: the fault is at the first byte with which no pair goes on.
func TestHalvesWrong(t *testing.T) {
	for _, second := range []string{"DC00", "dc00", "DFFF", "Ddff", "de12"} {
		expectInside(t, `\u`+second+`"`, api.ErrForm, 3)
		expectInside(t, `a\n\u`+second+`\uD800"`, api.ErrForm, 6)
		expectInside(t, `\uD800\uDC00\u`+second+`"`, api.ErrForm, 15)
	}
	for _, first := range []string{"D800", "d800", "DBFF", "dbff", "d9Ab"} {
		ahead := `\u` + first
		expectInside(t, ahead, api.ErrEnd, 6)
		expectInside(t, ahead+`"`, api.ErrForm, 6)
		expectInside(t, ahead+`a"`, api.ErrForm, 6)
		expectInside(t, ahead+"\u00e9\"", api.ErrForm, 6)
		expectInside(t, ahead+"\xFF\"", api.ErrUtf, 6)
		expectInside(t, ahead+"\n\"", api.ErrForm, 6)
		expectInside(t, ahead+`\`, api.ErrEnd, 7)
		expectInside(t, ahead+`\n"`, api.ErrForm, 7)
		expectInside(t, ahead+`\""`, api.ErrForm, 7)
		expectInside(t, ahead+`\U`, api.ErrForm, 7)
		expectInside(t, ahead+`\u`, api.ErrEnd, 8)
		expectInside(t, ahead+`\uD`, api.ErrEnd, 9)
		expectInside(t, ahead+`\udC`, api.ErrEnd, 10)
		expectInside(t, ahead+`\uDc0`, api.ErrEnd, 11)
		expectInside(t, ahead+`\udc00`, api.ErrEnd, 12)
		expectInside(t, ahead+`\u0041"`, api.ErrForm, 8)
		expectInside(t, ahead+`\uCFFF"`, api.ErrForm, 8)
		expectInside(t, ahead+`\uE000"`, api.ErrForm, 8)
		expectInside(t, ahead+`\uD7FF"`, api.ErrForm, 9)
		expectInside(t, ahead+`\uD800"`, api.ErrForm, 9)
		expectInside(t, ahead+`\uDBFF\uDC00"`, api.ErrForm, 9)
		expectInside(t, ahead+`\uDCG0"`, api.ErrForm, 10)
		expectInside(t, ahead+`\uDC0"`, api.ErrForm, 11)
	}
}

// P9.1, P9.2: a wrong byte at each place of a character within a string, and a string that ends there.
func TestCharactersWrong(t *testing.T) {
	for _, r := range edgeRunes[4:] {
		whole := string(r)
		for _, ahead := range []string{"", "a", "\u20ac", `\t`, `\uD83D\uDE00`} {
			for n := 1; n < len(whole); n++ {
				b := ahead + whole[:n]
				expectInside(t, b, api.ErrEnd, len(b))
				for _, x := range []string{`"`, `\`, "a", "\x00", "\n", "\x7f", "\xC0", "\xC3", "\xE2", "\xF0", "\xFF"} {
					expectInside(t, b+x, api.ErrUtf, len(b))
					expectInside(t, b+x+whole+`"`, api.ErrUtf, len(b))
				}
			}
			for _, x := range []string{"\x80", "\xBF", "\xC0", "\xC1", "\xF5", "\xFF"} {
				expectInside(t, ahead+whole+x+`"`, api.ErrUtf, len(ahead+whole))
			}
		}
	}
	expectInside(t, "\xE0\x9F\xBF\"", api.ErrUtf, 1)
	expectInside(t, "\xED\xA0\x80\"", api.ErrUtf, 1)
	expectInside(t, "\xED\xA0", api.ErrUtf, 1)
	expectInside(t, "\xF0\x8F\xBF\xBF\"", api.ErrUtf, 1)
	expectInside(t, "\xF4\x90\x80\x80\"", api.ErrUtf, 1)
}

// P9.1, P9.2, P9.6: where an escape should go on, a byte that begins a character is of a wrong form, whatever is behind it.
func TestCharactersWithinEscapes(t *testing.T) {
	for _, ahead := range []string{`\`, `\u`, `\u00`, `\uD83D`, `\uD83D\`, `\uD83D\u`, `\uD83D\uDE0`} {
		for _, behind := range []string{"", "\xA9", "A", "\xFF", `"`, "\x80\x80"} {
			for _, first := range []string{"\xC3", "\xE2", "\xF0"} {
				expectInside(t, ahead+first+behind, api.ErrForm, len(ahead))
			}
			expectInside(t, ahead+"\uFFFD"+behind, api.ErrForm, len(ahead))
			expectInside(t, ahead+"\x80"+behind, api.ErrUtf, len(ahead))
		}
	}
}

// P9.1, P9.2: strings that end too early, at every place within.
func TestStringsCut(t *testing.T) {
	whole := `"a\n\"\\\u0041\uD83D\uDE00` + "\u00e9\u20ac\U0001F600" + `z"`
	for n := 1; n < len(whole); n++ {
		expectFault(t, []byte(whole[:n]), 0, api.ErrEnd, n)
		expectString(t, []byte(whole[:n]), 0, "", 0, api.Fault{Why: api.ErrEnd, At: n})
		expectFault(t, []byte("{ "+whole[:n]), 1, api.ErrEnd, 2+n)
	}
	expectMeaning(t, whole[1:len(whole)-1], "a\n\"\\A\U0001F600\u00e9\u20ac\U0001F600z")
}

// P9.2: String at every place of some bytes, below 0, at the length and past it, and at either end of an int.
func TestStringPlaces(t *testing.T) {
	b := []byte(`["a\"b",true,"",{"x":1}] "c`)
	known := map[int]struct {
		text  string
		to    int
		fault api.Fault
	}{
		1:  {`a"b`, 7, api.Fault{}},
		4:  {"b", 7, api.Fault{}},
		6:  {",true,", 14, api.Fault{}},
		13: {"", 15, api.Fault{}},
		14: {",{", 18, api.Fault{}},
		17: {"x", 20, api.Fault{}},
		19: {":1}] ", 26, api.Fault{}},
		25: {"", 0, api.Fault{Why: api.ErrEnd, At: len(b)}},
	}
	for at := range b {
		k, ok := known[at]
		if ok != (b[at] == '"') {
			t.Fatal("the test is wrong at", at)
		}
		if !ok {
			k.fault = api.Fault{Why: api.ErrForm, At: at}
		}
		expectString(t, b, at, k.text, k.to, k.fault)
	}
	for _, at := range []int{-1, -2, -len(b), len(b), len(b) + 1, 4096, 1 << 31, math.MaxInt, math.MinInt} {
		expectString(t, b, at, "", 0, api.Fault{Why: api.ErrForm, At: at})
		expectString(t, nil, at, "", 0, api.Fault{Why: api.ErrForm, At: at})
		expectString(t, b[:3:len(b)], at, "", 0, api.Fault{Why: api.ErrForm, At: at})
	}
	expectString(t, nil, 0, "", 0, api.Fault{Why: api.ErrForm, At: 0})
	expectString(t, []byte{}, 0, "", 0, api.Fault{Why: api.ErrForm, At: 0})
}

// P9.2: String knows no bound of the bytes, and does not look behind the string.
func TestStringLong(t *testing.T) {
	text := strings.Repeat("a\u00e9", 20_000)
	b := []byte("\xFF[" + `"` + text + `"` + "\xFF\"\x00")
	expectString(t, b, 2, text, 4+len(text), api.Fault{})
	expectString(t, b[:len(b)-4], 2, "", 0, api.Fault{Why: api.ErrEnd, At: len(b) - 4})
	expectString(t, b, len(b)-2, "", 0, api.Fault{Why: api.ErrForm, At: len(b) - 1})
}

// P9.3: each byte below 32, the two signs, and what stands as it is.
func TestEscapeKnown(t *testing.T) {
	known := map[rune]string{8: `\b`, 9: `\t`, 10: `\n`, 12: `\f`, 13: `\r`, 34: `\"`, 92: `\\`, 0: `\u0000`, 11: `\u000b`, 31: `\u001f`, 16: `\u0010`, 127: "\x7f", '/': "/"}
	for x := rune(0); x < 128; x++ {
		want, ok := known[x]
		if !ok && x < 32 {
			want = fmt.Sprintf(`\u%04x`, x)
		} else if !ok {
			want = string(x)
		}
		expectEscape(t, string(x), want)
		expectEscape(t, "a"+string(x)+string(x)+"b", "a"+want+want+"b")
	}
	for _, r := range append(edgeRunes[3:], 0x2028, 0xFEFF) {
		expectEscape(t, string(r), string(r))
	}
	expectEscape(t, "", "")
	expectEscape(t, `<&>'/`, `<&>'/`)
	expectEscape(t, `\n"`, `\\n\"`)
}

// expectEscape holds what Escape tells against what should stand inside.
func expectEscape(t *testing.T, s, inside string) {
	t.Helper()
	if got := jlex.Escape(s); got != `"`+inside+`"` {
		t.Fatalf("Escape(%q) is %s, not \"%s\"", s, got, inside)
	}
}

// P9.3: of what is no text nothing, wherever the wrong byte is.
func TestEscapeNoText(t *testing.T) {
	for _, wrong := range []string{"\x80", "\xBF", "\xC0\x80", "\xC3", "\xE2\x82", "\xE0\x80\x80", "\xED\xA0\x80", "\xED\xBF\xBF", "\xF0\x9F\x98", "\xF4\x90\x80\x80", "\xF5", "\xFF"} {
		for _, s := range []string{wrong, "a" + wrong, wrong + "a", "\u00e9" + wrong + "\u00e9", strings.Repeat("a", 5000) + wrong} {
			if got := jlex.Escape(s); got != "" {
				t.Fatalf("Escape(%q) is %q", s, got)
			}
		}
	}
}

// P9.4: every character, escaped, is a string that means it.
func TestEscapeEveryCharacter(t *testing.T) {
	for r := rune(0); r <= utf8.MaxRune; r++ {
		if !utf8.ValidRune(r) {
			continue
		}
		told := jlex.Escape(string(r))
		if text, to, fault := jlex.String([]byte(told), 0); text != string(r) || to != len(told) || fault.Why != api.OK {
			t.Fatalf("%X is told %s: %q, %d, %v", r, told, text, to, fault)
		}
	}
}

// P9.4: texts by chance, escaped, are strings that mean them; so do other readers of JSON read them.
func TestEscapeMeansText(t *testing.T) {
	c := chance(94)
	for n := range 3000 {
		s := c.text(n % 40)
		told := jlex.Escape(s)
		expectMeaning(t, told[1:len(told)-1], s)
		var read string
		if err := json.Unmarshal([]byte(told), &read); err != nil || read != s {
			t.Fatalf("%q is told %s, which is read as %q, %v", s, told, read, err)
		}
	}
	long := c.text(50_000)
	told := jlex.Escape(long)
	expectString(t, []byte(told), 0, long, len(told), api.Fault{})
}

// P9.1, P9.2: strings that another writer of JSON tells mean what it was given.
func TestOtherWriters(t *testing.T) {
	c := chance(92)
	for n := range 2000 {
		s := c.text(n % 20)
		b, err := json.Marshal(s)
		if err != nil {
			t.Fatal(err)
		}
		expectMeaning(t, string(b[1:len(b)-1]), s)
	}
}

// P9.1, P9.2: all short rows of the bytes that matter, outside and inside strings, against the model.
func TestShortRows(t *testing.T) {
	for ahead, signs := range map[string]string{
		"":        "[,\"\\0 1-.eE+tn\x00\xC3",
		"1":       "01-.eE+ t",
		`"`:       "\"\\/unD8c0a\x1f\xC3\xA9\xED\xFF",
		`"\u`:     "\"\\0D8cfg\xE2\x80",
		`"\ud83d`: "\"\\udD8cC0\xFF",
	} {
		rows := [][]byte{[]byte(ahead)}
		for range 3 {
			var longer [][]byte
			for _, b := range rows {
				for i := range len(signs) {
					longer = append(longer, join(b, []byte{signs[i]}))
				}
			}
			for _, b := range longer {
				expectModel(t, b)
			}
			rows = longer
		}
	}
}

// P9.1, P9.2: rows of pieces by chance, against the model; String at every place of them, too.
func TestMess(t *testing.T) {
	c := chance(91)
	count := map[api.Errno]int{}
	for range 6000 {
		b := c.mess()
		expectModel(t, b)
		_, fault := jlex.Lex(b)
		count[fault.Why]++
		expectAllStrings(t, b)
	}
	for _, why := range []api.Errno{api.OK, api.ErrEnd, api.ErrForm, api.ErrUtf} {
		if count[why] < 100 {
			t.Fatal("the rows are too much alike:", count)
		}
	}
}

// expectAllStrings holds String at every place of b against what Lex tells of the bytes from there on.
func expectAllStrings(t *testing.T, b []byte) {
	t.Helper()
	for at := range b {
		if b[at] != '"' {
			expectString(t, b, at, "", 0, api.Fault{Why: api.ErrForm, At: at})
			continue
		}
		tokens, fault := modelLex(b[at:])
		if len(tokens) == 0 {
			expectString(t, b, at, "", 0, api.Fault{Why: fault.Why, At: at + fault.At})
		} else {
			expectString(t, b, at, tokens[0].Text, at+tokens[0].To, api.Fault{})
		}
	}
}

// P9.5: tokens stand in order, each of one byte at least, and between them, ahead of and behind them, up to a fault, gaps alone.
func TestOrder(t *testing.T) {
	c := chance(95)
	for range 5000 {
		b := c.tokens(c.below(12))
		spoiled := c.below(2) == 0 && len(b) > 0
		if spoiled {
			b[c.below(len(b))] = byte(c.below(256))
		}
		tokens, fault := jlex.Lex(b)
		if !spoiled && fault.Why != api.OK {
			t.Fatalf("Lex(%q) is %v", b, fault)
		}
		at := 0
		for _, token := range tokens {
			if token.From < at || token.To <= token.From || token.To > len(b) || strings.Trim(string(b[at:token.From]), " \t\n\r") != "" {
				t.Fatalf("Lex(%q) is %+v", b, tokens)
			}
			at = token.To
		}
		if fault.Why == api.OK && strings.Trim(string(b[at:]), " \t\n\r") != "" || fault.Why != api.OK && fault.At < at {
			t.Fatalf("Lex(%q) is %+v, %v", b, tokens, fault)
		}
	}
}

// P9.5: whatever gaps are between tokens, they say the same.
func TestGapsTurnNothing(t *testing.T) {
	parts := []string{"[", `"a b"`, ",", "-1.5e2", ",", "true", "{", "}", ":", "null", "false", "]"}
	c := chance(96)
	for range 500 {
		b := []byte{}
		for _, part := range parts {
			for range c.below(4) {
				b = append(b, " \t\n\r"[c.below(4)])
			}
			b = append(b, part...)
		}
		tokens, fault := jlex.Lex(b)
		if len(tokens) != len(parts) || fault.Why != api.OK {
			t.Fatalf("%q: %+v, %v", b, tokens, fault)
		}
		for i, token := range tokens {
			if string(b[token.From:token.To]) != parts[i] || token.Kind != kindOf(parts[i][0]) {
				t.Fatalf("%q: %+v", b, token)
			}
		}
	}
}

// P9.6: whatever is behind a fault's byte does not turn the fault, nor the tokens ahead; without that byte there is none, or bytes are missing.
func TestFaultHangsOnBytesAhead(t *testing.T) {
	c := chance(97)
	found := 0
	for range 8000 {
		b := c.mess()
		tokens, fault := jlex.Lex(b)
		if fault.Why == api.OK || fault.Why == api.ErrEnd {
			continue
		}
		found++
		for _, behind := range [][]byte{nil, {0x80}, {0xFF}, []byte(`"`), []byte("0"), []byte("  "), c.mess()} {
			expectLex(t, join(b[:fault.At+1], behind), tokens, fault)
		}
		ahead, cut := jlex.Lex(b[:fault.At])
		if !slices.Equal(ahead, tokens) || cut.Why != api.OK && cut != (api.Fault{Why: api.ErrEnd, At: fault.At}) {
			t.Fatalf("%q: %+v, %v; up to there %+v, %v", b, tokens, fault, ahead, cut)
		}
	}
	if found < 2000 {
		t.Fatal("too few faults:", found)
	}
}

// P9.6 and P9.1: a fault behind all bytes goes away with the bytes that were missing.
func TestMissingBytesGiven(t *testing.T) {
	c := chance(98)
	for range 300 {
		b := c.tokens(4)
		for n := range len(b) {
			if _, fault := jlex.Lex(b[:n]); fault.Why != api.OK && fault != (api.Fault{Why: api.ErrEnd, At: n}) {
				t.Fatalf("%q: %v", b[:n], fault)
			}
		}
		if _, fault := jlex.Lex(b); fault.Why != api.OK {
			t.Fatalf("%q: %v", b, fault)
		}
	}
}

// R1: where several errors apply, it is the one named first, at the first wrong byte; tokens ahead of the fault are told.
func TestTwoAtOnce(t *testing.T) {
	long := strings.Repeat("[", mostBytes)
	for b, k := range map[string]struct {
		tokens int
		fault  api.Fault
	}{
		"\"\xFF" + long:  {0, api.Fault{Why: api.ErrMany}},
		"x" + long:       {0, api.Fault{Why: api.ErrMany}},
		long + `"`:       {0, api.Fault{Why: api.ErrMany}},
		"\"\xC3\n":       {0, api.Fault{Why: api.ErrUtf, At: 2}},
		"\"\\\xFF":       {0, api.Fault{Why: api.ErrUtf, At: 2}},
		"\"\\x\xFF":      {0, api.Fault{Why: api.ErrForm, At: 2}},
		"\"\xFF\\x":      {0, api.Fault{Why: api.ErrUtf, At: 1}},
		"\"\n\xFF":       {0, api.Fault{Why: api.ErrForm, At: 1}},
		"[x\"\xFF":       {1, api.Fault{Why: api.ErrForm, At: 1}},
		"[1,\"a\xFF\" x": {3, api.Fault{Why: api.ErrUtf, At: 5}},
		"[\xFF\"\xFF":    {1, api.Fault{Why: api.ErrForm, At: 1}},
		`["a" tru`:       {2, api.Fault{Why: api.ErrEnd, At: 8}},
		`["a" tru "`:     {2, api.Fault{Why: api.ErrForm, At: 8}},
		`[1. "` + "\xFF": {1, api.Fault{Why: api.ErrForm, At: 3}},
	} {
		expectFault(t, []byte(b), k.tokens, k.fault.Why, k.fault.At)
	}
}

// R4: what is handed in, and the room behind it, stays as it is, and is not looked at there.
func TestNothingHandedInIsChanged(t *testing.T) {
	for _, head := range []string{"", `["a\u0041",-1.5e2,true]`, `"a`, `"a\`, "\"\xC3", "1.", "tru", "x", "\"\xFF"} {
		kept := []byte(head + `n"0e` + "\xA9")
		all := slices.Clone(kept)
		b := all[:len(head)]
		tokens, fault := modelLex([]byte(head))
		expectLex(t, b, tokens, fault)
		for at := -1; at <= len(head); at++ {
			jlex.String(b, at)
		}
		if !bytes.Equal(all, kept) {
			t.Fatalf("%q has become %q", kept, all)
		}
	}
}

// R4: nothing that is handed in is kept, and what was answered may be written over.
func TestNothingHandedInIsKept(t *testing.T) {
	b := []byte(`["abc",12]`)
	one, _ := jlex.Lex(b)
	two, _ := jlex.Lex(b)
	text, _, _ := jlex.String(b, 1)
	want := slices.Clone(one)
	for i := range one {
		one[i] = api.Token{Kind: -1, Text: "x"}
	}
	_ = append(one, api.Token{})
	if !slices.Equal(two, want) {
		t.Fatal(two)
	}
	for i := range b {
		b[i] = 'z'
	}
	if !slices.Equal(two, want) || text != "abc" {
		t.Fatal(two, text)
	}
	three, _ := jlex.Lex([]byte(`["abc",12]`))
	if !slices.Equal(three, want) {
		t.Fatal(three)
	}
}

// R4: what Escape answers is new memory, also where the text stands as it is.
func TestEscapeIsNew(t *testing.T) {
	s := strings.Repeat("a", 100)
	told := jlex.Escape(s)
	from, to := uintptr(unsafe.Pointer(unsafe.StringData(s))), uintptr(unsafe.Pointer(unsafe.StringData(told)))
	if to < from+uintptr(len(s)) && from < to+uintptr(len(told)) {
		t.Fatal("the answer shares memory with the text")
	}
}

// R3: the same calls have the same answers, whatever was called between.
func TestSameAnswers(t *testing.T) {
	c := chance(99)
	var rows [][]byte
	var faults []api.Fault
	var all [][]api.Token
	for range 300 {
		b := c.mess()
		tokens, fault := jlex.Lex(b)
		rows, all, faults = append(rows, b), append(all, tokens), append(faults, fault)
	}
	for i, b := range slices.Backward(rows) {
		expectLex(t, b, all[i], faults[i])
	}
}
