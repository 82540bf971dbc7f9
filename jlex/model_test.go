package jlex_test

import (
	"bytes"
	"regexp"
	"slices"
	"strings"
	"testing"
	"unicode/utf8"

	"gantline/api"
	"gantline/jlex"
)

// The kinds of tokens, as the document counts them.
const (
	openMap = iota + 1
	closeMap
	openArray
	closeArray
	colon
	comma
	quoted
	number
	isTrue
	isFalse
	isNull
)

// mostBytes is the document's bound.
const mostBytes = 4096

// The document's grammar, byte by byte: each byte is told as the character of its number (see wide).
const (
	character = `[\x20-\x21\x23-\x5B\x5D-\x7F]|[\xC2-\xDF][\x80-\xBF]|\xE0[\xA0-\xBF][\x80-\xBF]|[\xE1-\xEC\xEE\xEF][\x80-\xBF]{2}|\xED[\x80-\x9F][\x80-\xBF]|` +
		`\xF0[\x90-\xBF][\x80-\xBF]{2}|[\xF1-\xF3][\x80-\xBF]{3}|\xF4[\x80-\x8F][\x80-\xBF]{2}`
	short      = `\\["\\/bfnrt]`
	lone       = `\\u(?:[0-9A-CEFa-cef][0-9A-Fa-f]{3}|[Dd][0-7][0-9A-Fa-f]{2})`
	pair       = `\\u[Dd][89ABab][0-9A-Fa-f]{2}\\u[Dd][C-Fc-f][0-9A-Fa-f]{2}`
	oneString  = `"(?:` + character + `|` + short + `|` + lone + `|` + pair + `)*"`
	oneNumber  = `-?(?:0|[1-9][0-9]*)(?:\.[0-9]+)?(?:[eE][+-]?[0-9]+)?`
	oneToken   = `[{}\[\]:,]|true|false|null|` + oneNumber + `|` + oneString
	gap        = `[ \t\n\r]`
	wholeTexts = `^(?:` + oneToken + `|` + gap + `)*$`
)

var (
	wholeText  = regexp.MustCompile(wholeTexts)
	firstToken = regexp.MustCompile(`^(?:` + oneToken + `)`)
	// endings are bytes of which some make every beginning of tokens whole: nothing first, since what is whole needs none.
	endings = []string{
		"", `"`, `n"`, `0000"`, `000"`, `00"`, `0"`, `00\uDC00"`, `0\uDC00"`, `\uDC00"`, `uDC00"`, `DC00"`, `C00"`,
		"\x80\"", "\x80\x80\"", "\x80\x80\x80\"", "\x90\x80\x80\"", "\xA0\x80\"", "0",
		"rue", "ue", "e", "alse", "lse", "se", "ull", "ll", "l",
	}
)

// wide are bytes, each as the character of its number.
func wide(b []byte) string {
	runes := make([]rune, len(b))
	for i, x := range b {
		runes[i] = rune(x)
	}
	return string(runes)
}

// ending are the bytes that make a beginning of tokens whole; false, if none do.
func ending(b []byte) (string, bool) {
	for _, end := range endings {
		if wholeText.MatchString(wide(join(b, []byte(end)))) {
			return end, true
		}
	}
	return "", false
}

// openString is where the string begins that is open behind tokens; -1, if none is.
func openString(b []byte) int {
	open := -1
	for at := 0; at < len(b); at++ {
		switch {
		case b[at] == '"' && open < 0:
			open = at
		case b[at] == '"':
			open = -1
		case b[at] == '\\':
			at++
		}
	}
	return open
}

// beginsText tells whether some text begins with bytes.
func beginsText(b []byte) bool {
	for _, end := range []string{"", "\x80", "\x80\x80", "\x80\x80\x80", "\x90\x80\x80", "\xA0\x80"} {
		if utf8.Valid(join(b, []byte(end))) {
			return true
		}
	}
	return false
}

// modelFault is the fault that the document's words ask of b: at the first byte with which no tokens go on.
func modelFault(b []byte) api.Fault {
	for at := range b {
		if _, ok := ending(b[:at+1]); ok {
			continue
		}
		if from := openString(b[:at]); from >= 0 && !beginsText(b[from:at+1]) {
			return api.Fault{Why: api.ErrUtf, At: at}
		}
		return api.Fault{Why: api.ErrForm, At: at}
	}
	if end, _ := ending(b); end != "" {
		return api.Fault{Why: api.ErrEnd, At: len(b)}
	}
	return api.Fault{}
}

// kindOf is a token's kind by its first byte.
func kindOf(x byte) int {
	if at := strings.IndexByte(`{}[]:,"-tfn`, x); at >= 0 {
		return at + 1
	}
	return number
}

// meaning is what a string means that is right, by its parts.
func meaning(b []byte) string {
	var told []byte
	for b = b[1 : len(b)-1]; len(b) > 0; {
		if b[0] != '\\' {
			told, b = append(told, b[0]), b[1:]
			continue
		}
		if b[1] != 'u' {
			told, b = append(told, "\"\\/\b\f\n\r\t"[strings.IndexByte(`"\/bfnrt`, b[1])]), b[2:]
			continue
		}
		n := hex(b[2:6])
		b = b[6:]
		if n >= 0xD800 && n <= 0xDFFF {
			n = 0x10000 + 0x400*(n-0xD800) + hex(b[2:6]) - 0xDC00
			b = b[6:]
		}
		told = utf8.AppendRune(told, rune(n))
	}
	return string(told)
}

// hex is the number that digits of base 16 tell.
func hex(b []byte) int {
	n := 0
	for _, x := range bytes.ToLower(b) {
		n = 16*n + strings.IndexByte("0123456789abcdef", x)
	}
	return n
}

// modelLex is what the document's words ask of b.
func modelLex(b []byte) ([]api.Token, api.Fault) {
	if len(b) > mostBytes {
		return nil, api.Fault{Why: api.ErrMany}
	}
	fault := modelFault(b)
	right := len(b)
	if fault.Why != api.OK {
		right = fault.At
	}
	end, _ := ending(b[:right])
	all := join(b[:right], []byte(end))
	var tokens []api.Token
	for at := 0; at < right; {
		place := firstToken.FindStringIndex(wide(all[at:]))
		if place == nil {
			at++ // a gap
			continue
		}
		to := at + utf8.RuneCountInString(wide(all[at:])[:place[1]])
		if to > right {
			break // it is not whole without the ending
		}
		tokens = append(tokens, tokenOf(all, at, to))
		at = to
	}
	return tokens, fault
}

// tokenOf is the token that stands from one place to another.
func tokenOf(b []byte, from, to int) api.Token {
	token := api.Token{Kind: kindOf(b[from]), From: from, To: to}
	switch token.Kind {
	case quoted:
		token.Text = meaning(b[from:to])
	case number:
		token.Text = string(b[from:to])
	}
	return token
}

// join are bytes behind one another, in new memory.
func join(parts ...[]byte) []byte { return slices.Concat(parts...) }

// expectLex holds what Lex tells of b against tokens and a fault, and String against each string of them.
func expectLex(t *testing.T, b []byte, tokens []api.Token, fault api.Fault) {
	t.Helper()
	got, why := jlex.Lex(b)
	if !slices.Equal(got, tokens) || why != fault {
		t.Fatalf("Lex(%q) is %+v, %v, not %+v, %v", b, got, why, tokens, fault)
	}
	for _, token := range tokens {
		if token.Kind == quoted {
			expectString(t, b, token.From, token.Text, token.To, api.Fault{})
		}
	}
}

// expectModel is expectLex by the model.
func expectModel(t *testing.T, b []byte) {
	t.Helper()
	tokens, fault := modelLex(b)
	expectLex(t, b, tokens, fault)
}

// expectFault holds a fault of b, and that so many tokens stand ahead of it, against Lex.
func expectFault(t *testing.T, b []byte, tokens int, why api.Errno, at int) {
	t.Helper()
	got, fault := jlex.Lex(b)
	if fault != (api.Fault{Why: why, At: at}) || len(got) != tokens {
		t.Fatalf("Lex(%q) is %+v, %v: not %d tokens and %v at %d", b, got, fault, tokens, why, at)
	}
}

// expectString holds what String tells against a meaning, a place and a fault.
func expectString(t *testing.T, b []byte, at int, text string, to int, fault api.Fault) {
	t.Helper()
	got, behind, why := jlex.String(b, at)
	if got != text || behind != to || why != fault {
		t.Fatalf("String(%q, %d) is %q, %d, %v, not %q, %d, %v", b, at, got, behind, why, text, to, fault)
	}
}

// expectMeaning holds what a string's inside means against Lex and String, alone and among others.
func expectMeaning(t *testing.T, inside, text string) {
	t.Helper()
	b := []byte(`"` + inside + `"`)
	expectLex(t, b, []api.Token{{Kind: quoted, To: len(b), Text: text}}, api.Fault{})
	among := join([]byte(`["",`), b, []byte(`]`))
	expectString(t, among, 4, text, 4+len(b), api.Fault{})
}

// expectInside holds the fault of a string, counted from the first byte inside, against Lex and String, alone and behind others.
func expectInside(t *testing.T, inside string, why api.Errno, at int) {
	t.Helper()
	b := []byte(`"` + inside)
	expectFault(t, b, 0, why, 1+at)
	expectString(t, b, 0, "", 0, api.Fault{Why: why, At: 1 + at})
	behind := join([]byte(`["a",`), b)
	expectFault(t, behind, 3, why, 6+at)
	expectString(t, behind, 5, "", 0, api.Fault{Why: why, At: 6 + at})
}

// chance is a row of numbers that look like chance, the same ones each time.
type chance uint64

func (c *chance) next() uint64 {
	*c ^= *c << 13
	*c ^= *c >> 7
	*c ^= *c << 17
	return uint64(*c)
}

func (c *chance) below(n int) int { return int(c.next() % uint64(n)) }

// rune is a character, of each count of bytes alike often.
func (c *chance) rune() rune {
	bounds := []int{0, 0x20, 0x80, 0x800, 0x10000, 0x110000}
	i := c.below(len(bounds) - 1)
	if r := rune(bounds[i] + c.below(bounds[i+1]-bounds[i])); utf8.ValidRune(r) {
		return r
	}
	return 0xFFFD
}

// text are so many characters.
func (c *chance) text(n int) string {
	runes := make([]rune, n)
	for i := range runes {
		runes[i] = c.rune()
	}
	return string(runes)
}

// pieces are what tokens, and what looks like them, is made of.
var pieces = []string{
	"{", "}", "[", "]", ":", ",", `"`, `"`, `"`, `\`, `\"`, `\\`, `\/`, `\n`, `\u`, `\u0041`, `\u00e9`, `\uD83d`, `\udE00`, `\ud7ff`, `\uE000`, "D8", "dC", "00", "u",
	"0", "1", "9", "-", "+", ".", "e", "E", "-1.5e2", "true", "false", "null", "tru", "nul", "fals", " ", "\t", "\n", "\r", "\x00", "\x1f", "\x7f", "a",
	"\u00e9", "\u20ac", "\U0001F600", "\uFFFD", "\xC3", "\xE2\x82", "\xED\xA0", "\xF0\x9F\x98", "\x80", "\xBF", "\xFF", "\xC0", "/",
}

// mess is a row of pieces, often within a string.
func (c *chance) mess() []byte {
	var b []byte
	if c.below(2) == 0 {
		b = append(b, '"')
	}
	for range c.below(10) {
		b = append(b, pieces[c.below(len(pieces))]...)
	}
	return b
}

// tokens is a row of whole tokens with gaps among some of them.
func (c *chance) tokens(n int) []byte {
	var b []byte
	for range n {
		switch c.below(5) {
		case 0:
			b = append(b, "{}[]:,"[c.below(6)])
		case 1:
			b = append(b, []string{"true", "false", "null"}[c.below(3)]...)
		case 2:
			// A gap behind it, since a number behind could make it one that is wrong.
			b = append(b, []string{"0 ", "-0\t", "10\n", "-1.5e2\r", "1E+05 ", "0.0 ", "7e-1 "}[c.below(7)]...)
		default:
			b = append(b, jlex.Escape(c.text(c.below(6)))...)
		}
		for range c.below(3) {
			b = append(b, " \t\n\r"[c.below(4)])
		}
	}
	return b
}
