package tran_test

import (
	"bytes"
	"encoding/hex"
	"fmt"
	"math"
	"math/big"
	"slices"
	"strings"
	"testing"

	"gantline/api"
	"gantline/conv"
	"gantline/cread"
	"gantline/csay"
	"gantline/jread"
	"gantline/jsay"
	"gantline/loss"
	"gantline/tran"
	"gantline/tree"
)

// The document's bounds, as numbers of their own.
const (
	mostBytes = 4096
	mostNodes = 1024
	mostDepth = 24
)

const (
	json = 1
	cbor = 2
)

// pairs are the ways from a format to a format.
var pairs = [][2]int{{json, json}, {json, cbor}, {cbor, json}, {cbor, cbor}}

// noFormats are numbers that are no format's.
var noFormats = []int{0, 3, 4, -1, -2, 256 + json, 256 + cbor, 1<<32 + json, 1<<32 + cbor, math.MaxInt, math.MinInt, math.MinInt + json}

// none is the trailer of no losses.
var none = []byte{0}

func fault(why api.Errno, at int) api.Fault { return api.Fault{Why: why, At: at} }

// x are bytes by their digits of base 16, with gaps between.
func x(digits string) []byte {
	b, err := hex.DecodeString(strings.ReplaceAll(digits, " ", ""))
	if err != nil {
		panic(err)
	}
	return b
}

// modelRead is what the document says of Read.
func modelRead(format int, m []byte) (api.Node, api.Fault) {
	switch format {
	case json:
		return jread.Parse(m)
	case cbor:
		return cread.Decode(m)
	}
	return api.Node{}, fault(api.ErrArg, 0)
}

// modelWrite is a tree, written in a format that is one.
func modelWrite(format int, n api.Node) ([]byte, api.Errno) {
	if format == json {
		return jsay.Print(n)
	}
	return csay.Encode(n)
}

// modelForm is a message in its one form, by the calls of layers 11 and 13.
func modelForm(format int, m []byte) ([]byte, api.Fault) {
	if format == json {
		return jsay.Form(m)
	}
	return csay.Form(m)
}

// modelRecord is the record of a fault, byte by byte.
func modelRecord(to int, f api.Fault) []byte {
	switch to {
	case json:
		return fmt.Appendf(nil, `{"error":%d,"at":%d}`, int(f.Why), f.At)
	case cbor:
		return slices.Concat([]byte("\xA2\x65error"), modelInt(int(f.Why)), []byte("\x62at"), modelInt(f.At))
	}
	return nil
}

// modelInt are the bytes of a number in Cbor.
func modelInt(n int) []byte {
	major, argument := byte(0), uint64(n)
	if n < 0 {
		// All bits turned: -1 - n, also of the least number.
		major, argument = 0x20, ^argument
	}
	if argument < 24 {
		return []byte{major + byte(argument)}
	}
	for low, width := byte(24), 1; ; low, width = low+1, 2*width {
		if width == 8 || argument>>(8*width) == 0 {
			b := []byte{major + low}
			for i := range width {
				b = append(b, byte(argument>>(8*(width-1-i))))
			}
			return b
		}
	}
}

func isFormat(format int) bool { return format == json || format == cbor }

// modelTurn is what the document says of Turn.
func modelTurn(from, to int, m []byte) ([]byte, []byte, api.Fault) {
	if !isFormat(from) || !isFormat(to) {
		return nil, nil, fault(api.ErrArg, 0)
	}
	n, wrong := modelRead(from, m)
	var l []api.Loss
	if wrong.Why == api.OK && from == cbor && to == json {
		n, l, wrong.Why = conv.ToJson(n)
	}
	var turned []byte
	if wrong.Why == api.OK {
		turned, wrong.Why = modelWrite(to, n)
	}
	if wrong.Why != api.OK {
		return modelRecord(to, wrong), nil, wrong
	}
	trailer, why := loss.Build(l)
	return turned, trailer, fault(why, 0)
}

// modelBack is what the document says of Back.
func modelBack(from, to int, m, trailer []byte) ([]byte, api.Fault) {
	if !isFormat(from) || !isFormat(to) {
		return nil, fault(api.ErrArg, 0)
	}
	n, wrong := modelRead(to, m)
	if wrong.Why != api.OK {
		return nil, wrong
	}
	l, wrong := loss.Parse(trailer)
	if wrong.Why != api.OK {
		return nil, wrong
	}
	n, why := conv.Restore(n, l)
	if why != api.OK {
		return nil, fault(why, 0)
	}
	back, why := modelWrite(from, n)
	return back, fault(why, 0)
}

// told is a message in words: as it is, if it is a text, else in digits; cut off, if it is long.
func told(m []byte) string {
	text := fmt.Sprintf("% x", m)
	if jread.Valid(m) {
		text = string(m)
	}
	if len(text) > 300 {
		return fmt.Sprintf("%s .. (%d bytes)", text[:300], len(m))
	}
	return text
}

// expectTurned wants a message to be turned into just this one, with this trailer, and back into its one form.
func expectTurned(t *testing.T, from, to int, m, want, trailer []byte) {
	t.Helper()
	got, lost, wrong := tran.Turn(from, to, m)
	if !bytes.Equal(got, want) || !bytes.Equal(lost, trailer) || wrong != (api.Fault{}) {
		t.Fatalf("turned %d to %d, %s: %s, trailer % x, %v; must be %s, trailer % x", from, to, told(m), told(got), lost, wrong, told(want), trailer)
	}
	expectTurnedLaws(t, from, to, m, got, lost)
}

// expectTurnedLaws wants P16.4 to P16.6 to hold of a message that was turned.
func expectTurnedLaws(t *testing.T, from, to int, m, turned, trailer []byte) {
	t.Helper()
	if form, wrong := modelForm(to, turned); !bytes.Equal(form, turned) || wrong != (api.Fault{}) {
		t.Fatalf("turned %d to %d, %s: %s, whose one form is %s, %v", from, to, told(m), told(turned), told(form), wrong)
	}
	form, formFault := modelForm(from, m)
	if back, wrong := tran.Back(from, to, turned, trailer); !bytes.Equal(back, form) || wrong != formFault {
		t.Fatalf("turned %d to %d, %s, and back: %s, %v; its one form is %s, %v", from, to, told(m), told(back), wrong, told(form), formFault)
	}
	if from == json && !bytes.Equal(trailer, none) {
		t.Fatalf("turned %d to %d, %s: trailer % x", from, to, told(m), trailer)
	}
}

// expectRefused wants the record of a fault of a message, and no trailer.
func expectRefused(t *testing.T, from, to int, m []byte, why api.Errno, at int) {
	t.Helper()
	want := fault(why, at)
	record, lost, wrong := tran.Turn(from, to, m)
	if !bytes.Equal(record, modelRecord(to, want)) || len(lost) != 0 || wrong != want {
		t.Fatalf("turned %d to %d, %s: %s, trailer % x, %v; must be %s, %v", from, to, told(m), told(record), lost, wrong, told(modelRecord(to, want)), want)
	}
}

// expectUnread wants the fault of a message by Read, by Turn into each format, and by Back from it.
func expectUnread(t *testing.T, format int, m []byte, why api.Errno, at int) {
	t.Helper()
	want := fault(why, at)
	if n, wrong := tran.Read(format, m); !zero(n) || wrong != want {
		t.Fatalf("read %d, %s: %v, %v; must be %v", format, told(m), n, wrong, want)
	}
	for _, other := range []int{json, cbor} {
		expectRefused(t, format, other, m, why, at)
		for _, trailer := range [][]byte{none, nil, {1}, {128}, {0, 0}} {
			expectBackFault(t, other, format, m, trailer, why, at)
		}
	}
}

// zero says whether a node is the zero value.
func zero(n api.Node) bool {
	return n.Kind == 0 && n.N == 0 && !n.Neg && n.Digits == "" && n.Exp == 0 && n.Text == "" && len(n.Bytes)+len(n.Keys)+len(n.Kids) == 0
}

// expectBack wants a message to be turned back into just this one.
func expectBack(t *testing.T, from, to int, m, trailer, want []byte) {
	t.Helper()
	if got, wrong := tran.Back(from, to, m, trailer); !bytes.Equal(got, want) || wrong != (api.Fault{}) {
		t.Fatalf("back %d to %d, %s, % x: %s, %v; must be %s", from, to, told(m), trailer, told(got), wrong, told(want))
	}
}

// expectBackFault wants no message to come back.
func expectBackFault(t *testing.T, from, to int, m, trailer []byte, why api.Errno, at int) {
	t.Helper()
	if got, wrong := tran.Back(from, to, m, trailer); len(got) != 0 || wrong != fault(why, at) {
		t.Fatalf("back %d to %d, %s, % x: %s, %v; must be %v", from, to, told(m), trailer, told(got), wrong, fault(why, at))
	}
}

// expectModel wants of a message what the model says, and what follows.
func expectModel(t *testing.T, from, to int, m []byte) api.Fault {
	t.Helper()
	want, trailer, wrong := modelTurn(from, to, m)
	n, readFault := modelRead(from, m)
	if got, f := tran.Read(from, m); f != readFault || readFault.Why == api.OK && !tree.Same(got, n) || readFault.Why != api.OK && !zero(got) {
		t.Fatalf("read %d, %s: %v, %v; must be %v, %v", from, told(m), got, f, n, readFault)
	}
	if wrong.Why != api.OK {
		expectRefused(t, from, to, m, wrong.Why, wrong.At)
	} else {
		expectTurned(t, from, to, m, want, trailer)
	}
	return wrong
}

// expectModelBack wants of a message that is turned back what the model says.
func expectModelBack(t *testing.T, from, to int, m, trailer []byte) api.Fault {
	t.Helper()
	want, wrong := modelBack(from, to, m, trailer)
	if wrong.Why != api.OK {
		expectBackFault(t, from, to, m, trailer, wrong.Why, wrong.At)
	} else {
		expectBack(t, from, to, m, trailer, want)
	}
	return wrong
}

// chance is a row of numbers that look like chance, the same ones each time.
type chance uint64

func (c *chance) next() uint64 {
	*c ^= *c << 13
	*c ^= *c >> 7
	*c ^= *c << 17
	return uint64(*c) * 2685821657736338717
}

func (c *chance) below(n int) int { return int(c.next() >> 1 % uint64(n)) }

func (c *chance) of(list ...string) string { return list[c.below(len(list))] }

// message is one of a format, in any of its forms.
func (c *chance) message(format, depth int) []byte {
	if format == json {
		return []byte(c.text(depth))
	}
	return c.item(depth)
}

// gap is what may stand between two tokens.
func (c *chance) gap() string { return c.of("", "", "", " ", "\n", "\t \r") }

// numberText is a number of Json, in any of its forms.
func (c *chance) numberText() string {
	digits := new(big.Int).SetUint64(c.next() >> c.below(64)).String()
	return c.of("", "-") + digits + c.of("", "", ".0", ".50", ".125") + c.of("", "", "e2", "E-3", "e+0", "e20", "e-400")
}

// stringText is a string of Json, in any of its forms.
func (c *chance) stringText() string {
	part := func() string {
		return c.of("", "a", "b", `\u0061`, `\n`, `\"`, `\/`, "00", "ff", "\u00e9", "\u20ac", `\ud83d\ude00`, `\u0000`)
	}
	return `"` + part() + part() + `"`
}

// text is a message of Json.
func (c *chance) text(depth int) string {
	if depth > 1 && c.below(3) > 0 {
		return c.gap() + c.list(depth-1) + c.gap()
	}
	return c.gap() + c.of("null", "true", "false", c.numberText(), c.numberText(), c.stringText(), c.stringText(), "[]", "{}") + c.gap()
}

// list is an Array or a Map of Json.
func (c *chance) list(depth int) string {
	members := c.below(2) == 0
	var parts []string
	for i := range c.below(5) {
		part := c.text(depth)
		if members {
			part = fmt.Sprintf(`%s"%s%d"%s:%s`, c.gap(), c.of("", "k", `\t`), i, c.gap(), part)
		}
		parts = append(parts, part)
	}
	if members {
		return "{" + strings.Join(parts, ",") + c.gap() + "}"
	}
	return "[" + strings.Join(parts, ",") + c.gap() + "]"
}

// head is an item's beginning, now and then with more bytes than it needs.
func (c *chance) head(major int, n uint64) []byte {
	b, _ := csay.Head(major, n)
	if c.below(4) == 0 {
		b = []byte{byte(major<<5) | 27}
		for i := range 8 {
			b = append(b, byte(n>>(56-8*i)))
		}
	}
	return b
}

// run is Bytes (2) or a Text (3), now and then in parts.
func (c *chance) run(major int, b string) []byte {
	if c.below(4) == 0 {
		return slices.Concat([]byte{byte(major<<5) | 31}, c.head(major, uint64(len(b))), []byte(b), c.head(major, 0), []byte{255})
	}
	return append(c.head(major, uint64(len(b))), b...)
}

// number is an item that is a number: an Int, a Dec or a Float.
func (c *chance) number() []byte {
	n := c.next() >> c.below(64)
	switch c.below(6) {
	case 0:
		return append(c.head(6, uint64(2+c.below(2))), c.run(2, c.of("", "\x01", "\x00\x07", "\x01\x00\x00\x00\x00\x00\x00\x00\x00", "\xFF\xFF\xFF\xFF\xFF\xFF\xFF\xFF"))...)
	case 1:
		return slices.Concat(c.head(6, 4), c.head(4, 2), c.head(c.below(2), uint64(c.below(400))), c.head(c.below(2), n))
	case 2:
		return x(c.of("f93c00", "f90000", "f98000", "fa47c35000", "fb3fb999999999999a", "fbc0091eb851eb851f", "f90001", "fb4024000000000000"))
	case 3:
		return x(c.of("f97c00", "f97e00", "f9fc00", "fb7ff8000000000000", "fb7ff0000000000001", "fa7f800000"))
	}
	return c.head(c.below(2), n)
}

// leaf is an item without others.
func (c *chance) leaf() []byte {
	switch c.below(6) {
	case 0:
		return x(c.of("f4", "f5", "f6", "f7", "e0", "f3", "f820", "f8ff"))
	case 1:
		return c.run(2, c.of("", "\x00", "\xFF\x01", "abc"))
	case 2, 3:
		return c.run(3, c.of("", "a", "b", "00", "ff", "\u00e9", "\x01\n\"", "\u20ac"))
	}
	return c.number()
}

// item is a message of Cbor.
func (c *chance) item(depth int) []byte {
	if depth < 2 || c.below(4) == 0 {
		return c.leaf()
	}
	kind := c.below(5)
	if kind == 0 {
		return append(c.head(6, c.next()>>c.below(64)), c.item(depth-1)...)
	}
	count, texts := c.below(5), c.below(2) == 0
	var inside []byte
	for i := range count {
		switch {
		case kind > 2 && texts:
			inside = append(inside, c.run(3, fmt.Sprint(i))...)
		case kind > 2:
			inside = append(inside, c.item(depth-1)...)
		}
		inside = append(inside, c.item(depth-1)...)
	}
	major := 4
	if kind > 2 {
		major = 5
	}
	if c.below(4) == 0 {
		return slices.Concat([]byte{byte(major<<5) | 31}, inside, []byte{255})
	}
	return append(c.head(major, uint64(count)), inside...)
}

// spoiled are bytes with one that is turned, put in or left out, or cut off.
func (c *chance) spoiled(b []byte) []byte {
	if len(b) == 0 {
		return []byte{byte(c.next())}
	}
	b = slices.Clone(b)
	at := c.below(len(b))
	switch c.below(5) {
	case 0:
		b[at] = byte(c.next())
	case 1:
		b[at] ^= 1 << c.below(8)
	case 2:
		return slices.Insert(b, at, byte(c.next()))
	case 3:
		return slices.Delete(b, at, at+1)
	case 4:
		return b[:at]
	}
	return b
}
