package tran_test

import (
	"bytes"
	"fmt"
	"math"
	"reflect"
	"slices"
	"strings"
	"testing"
	"unsafe"

	"gantline/api"
	"gantline/tran"
	"gantline/tree"
)

// P16.2, P16.3: the document's examples, of this chapter and of the whole.
func TestExamples(t *testing.T) {
	expectTurned(t, cbor, json, x("41 ff"), []byte(`"ff"`), []byte{1, 3, 0, 0})
	expectRefused(t, json, json, []byte(`[`), api.ErrEnd, 1)
	if record, _, _ := tran.Turn(json, json, []byte(`[`)); string(record) != `{"error":3,"at":1}` {
		t.Fatal(string(record))
	}
	expectTurned(t, json, cbor, []byte(`[1]`), x("81 01"), none)
	expectTurned(t, json, cbor, []byte(`1.50`), x("c4 82 20 0f"), none)
	expectTurned(t, json, cbor, []byte(`15e-1`), x("c4 82 20 0f"), none)
	expectTurned(t, cbor, json, x("f9 3c00"), []byte(`1`), x("01 01 bff880808080808000 00"))
	expectTurned(t, cbor, json, x("a1 01 02"), []byte(`[[1,2]]`), []byte{1, 5, 0, 0})
}

// both are messages of each kind of value that each format can tell, in their one form in Json and in Cbor.
var both = []struct{ json, cbor string }{
	{`null`, "f6"},
	{`true`, "f5"},
	{`false`, "f4"},
	{`0`, "00"},
	{`23`, "17"},
	{`24`, "18 18"},
	{`256`, "19 0100"},
	{`65536`, "1a 00010000"},
	{`18446744073709551615`, "1b ffffffffffffffff"},
	{`18446744073709551616`, "c2 49 010000000000000000"},
	{`-1`, "20"},
	{`-25`, "38 18"},
	{`-18446744073709551616`, "3b ffffffffffffffff"},
	{`-18446744073709551617`, "c3 49 010000000000000000"},
	{`25e-1`, "c4 82 20 18 19"},
	{`-25e-1`, "c4 82 20 38 18"},
	{`1e2000`, "c4 82 19 07d0 01"},
	{`1e-2000`, "c4 82 39 07cf 01"},
	{`""`, "60"},
	{`"a"`, "61 61"},
	{`"01ff"`, "64 30316666"},
	{`"é€"`, "65 c3a9 e282ac"},
	{`"\n\"\\"`, "63 0a225c"},
	{`[]`, "80"},
	{`{}`, "a0"},
	{`[1,[2,[]],{}]`, "83 01 82 02 80 a0"},
	{`[[1,2],[3,4]]`, "82 82 01 02 82 03 04"},
	{`{"a":1}`, "a1 61 61 01"},
	{`{"b":1,"a":{"":null}}`, "a2 61 62 01 61 61 a1 60 f6"},
	{`{"a":[1,25e-1,"x",true]}`, "a1 61 61 84 01 c4 82 20 18 19 61 78 f5"},
}

// P16.2 to P16.6: what both formats can tell is turned each way, without a loss.
func TestWhatBothCanTell(t *testing.T) {
	for _, row := range both {
		text, item := []byte(row.json), x(row.cbor)
		expectTurned(t, json, json, text, text, none)
		expectTurned(t, json, cbor, text, item, none)
		expectTurned(t, cbor, json, item, text, none)
		expectTurned(t, cbor, cbor, item, item, none)
		expectBack(t, json, cbor, item, none, text)
		expectBack(t, cbor, json, text, none, item)
		expectBack(t, json, json, text, none, text)
		expectBack(t, cbor, cbor, item, none, item)
	}
}

// P16.2, P16.4, P16.5: messages of Json that are not in their one form come in it.
func TestOtherFormsOfJson(t *testing.T) {
	for _, row := range []struct{ m, json, cbor string }{
		{" [ 1.50 ,\t\"\\u0061\" ]\r\n", `[15e-1,"a"]`, "82 c4 82 20 0f 61 61"},
		{`-0`, `0`, "00"},
		{`-0.0e5`, `0`, "00"},
		{`1e2`, `100`, "18 64"},
		{`100e-2`, `1`, "01"},
		{`0.001`, `1e-3`, "c4 82 22 01"},
		{`"\/\u002F"`, `"//"`, "62 2f2f"},
		{`"\ud83d\ude00"`, "\"\U0001F600\"", "64 f09f9880"},
		{`"\u000a\u0022"`, `"\n\""`, "62 0a22"},
		{`{ "\u0062" : [ ] , "a" : { } }`, `{"b":[],"a":{}}`, "a2 61 62 80 61 61 a0"},
	} {
		expectTurned(t, json, json, []byte(row.m), []byte(row.json), none)
		expectTurned(t, json, cbor, []byte(row.m), x(row.cbor), none)
		expectBack(t, json, json, []byte(row.m), none, []byte(row.json))
		expectBack(t, cbor, json, []byte(row.m), none, x(row.cbor))
	}
}

// P16.2, P16.4, P16.5: messages of Cbor that are not in their one form come in it.
func TestOtherFormsOfCbor(t *testing.T) {
	for _, row := range []struct{ m, json, cbor string }{
		{"18 01", `1`, "01"},
		{"1b 0000000000000018", `24`, "18 18"},
		{"39 0000", `-1`, "20"},
		{"c2 41 05", `5`, "05"},
		{"c3 41 05", `-6`, "25"},
		{"c2 40", `0`, "00"},
		{"c2 4a 00010000000000000000", `18446744073709551616`, "c2 49 010000000000000000"},
		{"d8 02 5f 41 01 41 00 ff", `256`, "19 0100"},
		{"c4 82 02 01", `100`, "18 64"},
		{"c4 9f 21 19 0096 ff", `15e-1`, "c4 82 20 0f"},
		{"9f 01 02 ff", `[1,2]`, "82 01 02"},
		{"98 01 80", `[[]]`, "81 80"},
		{"bf 61 61 01 ff", `{"a":1}`, "a1 61 61 01"},
		{"7f 61 61 60 61 62 ff", `"ab"`, "62 6162"},
		{"7f ff", `""`, "60"},
	} {
		expectTurned(t, cbor, json, x(row.m), []byte(row.json), none)
		expectTurned(t, cbor, cbor, x(row.m), x(row.cbor), none)
		expectBack(t, cbor, cbor, x(row.m), none, x(row.cbor))
		expectBack(t, json, cbor, x(row.m), none, []byte(row.json))
	}
}

// P16.2, P16.3, P16.5: each kind of loss, alone and within others: from Cbor to Json the trailer tells it, from Cbor to Cbor nothing is lost.
func TestEachLoss(t *testing.T) {
	for _, row := range []struct{ cbor, json, trailer string }{
		{"f9 3c00", `1`, "01 01 bff880808080808000 00"},
		{"f9 3800", `5e-1`, "01 01 bff080808080808000 00"},
		{"f9 8000", `0`, "01 01 81808080808080808000 00"},
		{"f9 7e00", `null`, "01 02 fffc80808080808000 00"},
		{"f9 fc00", `null`, "01 02 81fff880808080808000 00"},
		{"40", `""`, "01 03 00 00"},
		{"42 01ff", `"01ff"`, "01 03 00 00"},
		{"c1 01", `1`, "01 04 01 00"},
		{"d9 d9f7 80", `[]`, "01 04 83b377 00"},
		{"c2 61 61", `"a"`, "01 04 02 00"},
		{"c4 81 01", `[1]`, "01 04 04 00"},
		{"c4 82 01 61 61", `[1,"a"]`, "01 04 04 00"},
		{"db ffffffffffffffff f6", `null`, "01 04 81ffffffffffffffff7f 00"},
		{"a1 01 02", `[[1,2]]`, "01 05 00 00"},
		{"a1 80 a0", `[[[],{}]]`, "01 05 00 00"},
		{"f0", `null`, "01 06 10 00"},
		{"f7", `null`, "01 06 17 00"},
		{"f8 ff", `null`, "01 06 817f 00"},
		{"82 01 41 00", `[1,"00"]`, "01 03 00 01 01"},
		{"a2 61 61 01 61 62 41 00", `{"a":1,"b":"00"}`, "01 03 00 01 03"},
		{"c5 c6 41 01", `"01"`, "03 04 05 00 04 06 00 03 00 00"},
		{"a1 01 41 ff", `[[1,"ff"]]`, "02 05 00 00 03 00 02 00 01"},
		{"a1 41 ff 01", `[["ff",1]]`, "02 05 00 00 03 00 02 00 00"},
		{"a2 01 02 c1 01 03", `[[1,2],[1,3]]`, "02 05 00 00 04 01 02 01 00"},
		{"a2 62 3031 01 41 01 02", `[["01",1],["01",2]]`, "02 05 00 00 03 00 02 01 00"},
		{"a1 61 61 c1 f7", `{"a":null}`, "02 04 01 01 01 06 17 01 01"},
		{"82 f7 a1 01 82 f0 c1 a1 02 40", `[null,[[1,[null,[[2,""]]]]]]`, "06 06 17 01 00 05 00 01 01 06 10 04 01 00 01 00 04 01 04 01 00 01 01 05 00 04 01 00 01 01 03 00 06 01 00 01 01 00 01"},
	} {
		expectTurned(t, cbor, json, x(row.cbor), []byte(row.json), x(row.trailer))
		expectTurned(t, cbor, cbor, x(row.cbor), x(row.cbor), none)
		expectBack(t, cbor, json, []byte(row.json), x(row.trailer), x(row.cbor))
		expectBackFault(t, json, cbor, x(row.cbor), none, api.ErrKind, 0)
	}
}

// P16.2, P16.3: the same bytes are read by the format that is told, from in Turn, to in Back.
func TestWhichFormatIsRead(t *testing.T) {
	// The digit 1 is the number -18 in Cbor.
	one := []byte(`1`)
	expectTurned(t, json, json, one, one, none)
	expectTurned(t, json, cbor, one, x("01"), none)
	expectTurned(t, cbor, json, one, []byte(`-18`), none)
	expectTurned(t, cbor, cbor, one, one, none)
	expectBack(t, json, json, one, none, one)
	expectBack(t, json, cbor, one, none, []byte(`-18`))
	expectBack(t, cbor, json, one, none, x("01"))
	expectBack(t, cbor, cbor, one, none, one)
	expectRefused(t, json, cbor, x("81 01"), api.ErrForm, 0)
	expectBackFault(t, cbor, json, x("81 01"), none, api.ErrForm, 0)
	expectRefused(t, cbor, json, []byte(`[1]`), api.ErrEnd, 3)
	expectBackFault(t, json, cbor, []byte(`[1]`), none, api.ErrEnd, 3)
}

// P16.1: Read reads by the format.
func TestRead(t *testing.T) {
	text := func(s string) api.Node { return api.Node{Kind: api.Text, Text: s} }
	one := api.Node{Kind: api.Int, Digits: "1"}
	half := api.Node{Kind: api.Dec, Digits: "25", Exp: -1}
	whole := api.Node{Kind: api.Map, Keys: []api.Node{text("a")}, Kids: []api.Node{{Kind: api.Array, Kids: []api.Node{one, half}}}}
	for _, c := range []struct {
		format int
		m      []byte
		want   api.Node
	}{
		{json, []byte(`{"a":[1,2.50]}`), whole},
		{cbor, x("a1 61 61 82 01 c4 82 20 18 19"), whole},
		{json, []byte(`null`), api.Node{}},
		{cbor, x("f6"), api.Node{}},
		{json, []byte(`true`), api.Node{Kind: api.Bool, N: 1}},
		{json, []byte(`1`), one},
		{cbor, []byte(`1`), api.Node{Kind: api.Int, Neg: true, Digits: "18"}},
		{cbor, x("41 ff"), api.Node{Kind: api.Bytes, Bytes: []byte{255}}},
		{cbor, x("f9 3c00"), api.Node{Kind: api.Float, N: math.Float64bits(1)}},
		{cbor, x("c1 01"), api.Node{Kind: api.Tag, N: 1, Kids: []api.Node{one}}},
		{cbor, x("f7"), api.Node{Kind: api.Simple, N: 23}},
		{cbor, x("a1 01 61 61"), api.Node{Kind: api.Map, Keys: []api.Node{one}, Kids: []api.Node{text("a")}}},
	} {
		if n, wrong := tran.Read(c.format, c.m); !tree.Same(n, c.want) || wrong != (api.Fault{}) {
			t.Fatalf("read %d, %s: %v, %v; must be %v", c.format, told(c.m), n, wrong, c.want)
		}
	}
}

// P16.1 to P16.3, R1: a format that is none, in either place, is told ahead of all else.
func TestFormatsThatAreNone(t *testing.T) {
	messages := [][]byte{nil, []byte(`1`), []byte(`[`), x("41 ff"), x("ff"), make([]byte, mostBytes+1)}
	for _, format := range noFormats {
		if record := tran.Record(format, fault(api.ErrEnd, 1)); len(record) != 0 {
			t.Fatal(format, told(record))
		}
		for _, m := range messages {
			if n, wrong := tran.Read(format, m); !zero(n) || wrong != fault(api.ErrArg, 0) {
				t.Fatal(format, n, wrong)
			}
			for _, other := range append([]int{json, cbor}, noFormats...) {
				for _, way := range [][2]int{{format, other}, {other, format}} {
					got, trailer, wrong := tran.Turn(way[0], way[1], m)
					if len(got)+len(trailer) != 0 || wrong != fault(api.ErrArg, 0) {
						t.Fatal(way, told(m), told(got), trailer, wrong)
					}
					for _, trailer := range [][]byte{none, nil, {1}, {0, 0}, {1, 3, 0, 0}} {
						expectBackFault(t, way[0], way[1], m, trailer, api.ErrArg, 0)
					}
				}
			}
		}
	}
}

// faults are Whys and Ats of all sizes, also below 0.
func faults() []api.Fault {
	numbers := []int{0, 1, 19, 20, 23, 24, 25, 255, 256, 4096, 65535, 65536, math.MaxUint32, math.MaxUint32 + 1, math.MaxInt, -1, -2, -24, -25, -256, -257, -65536, -65537, math.MinInt32, math.MinInt + 1, math.MinInt}
	var all []api.Fault
	for _, why := range numbers {
		for _, at := range numbers {
			all = append(all, fault(api.Errno(why), at))
		}
	}
	return all
}

// P16.1: the record of a fault, in each format.
func TestRecord(t *testing.T) {
	for _, c := range []struct {
		f          api.Fault
		json, cbor string
	}{
		{fault(api.ErrEnd, 1), `{"error":3,"at":1}`, "a2 65 6572726f72 03 62 6174 01"},
		{fault(api.OK, 0), `{"error":0,"at":0}`, "a2 65 6572726f72 00 62 6174 00"},
		{fault(api.ErrPath, 4096), `{"error":19,"at":4096}`, "a2 65 6572726f72 13 62 6174 19 1000"},
		{fault(-1, -25), `{"error":-1,"at":-25}`, "a2 65 6572726f72 20 62 6174 38 18"},
		{fault(math.MinInt, math.MaxInt), `{"error":-9223372036854775808,"at":9223372036854775807}`, "a2 65 6572726f72 3b 7fffffffffffffff 62 6174 1b 7fffffffffffffff"},
		{fault(math.MaxInt, math.MinInt), `{"error":9223372036854775807,"at":-9223372036854775808}`, "a2 65 6572726f72 1b 7fffffffffffffff 62 6174 3b 7fffffffffffffff"},
	} {
		if got := tran.Record(json, c.f); string(got) != c.json {
			t.Fatalf("%s; must be %s", got, c.json)
		}
		if got := tran.Record(cbor, c.f); !bytes.Equal(got, x(c.cbor)) {
			t.Fatalf("% x; must be %s", got, c.cbor)
		}
	}
	for _, f := range faults() {
		for _, to := range []int{json, cbor} {
			if got := tran.Record(to, f); !bytes.Equal(got, modelRecord(to, f)) {
				t.Fatalf("the record of %v in %d: %s", f, to, told(got))
			}
		}
	}
}

// P16.7: records are turned into each format without a loss, into the record there; and again and back.
func TestRecordsAreTurned(t *testing.T) {
	for _, f := range faults() {
		for _, way := range pairs {
			here, there := tran.Record(way[0], f), tran.Record(way[1], f)
			expectTurned(t, way[0], way[1], here, there, none)
			expectBack(t, way[0], way[1], there, none, here)
		}
	}
	// The record of a message that is none, turned by one relay behind another.
	record, _, _ := tran.Turn(cbor, json, x("81 1c"))
	expectTurned(t, json, cbor, record, tran.Record(cbor, fault(api.ErrForm, 1)), none)
}

// P16.1, P16.2, P16.3: each fault of the reading of Json, at its byte.
func TestFaultsOfJson(t *testing.T) {
	for _, c := range []struct {
		m   string
		why api.Errno
		at  int
	}{
		{``, api.ErrEnd, 0},
		{` `, api.ErrEnd, 1},
		{`[1`, api.ErrEnd, 2},
		{`{"a":`, api.ErrEnd, 5},
		{`"a`, api.ErrEnd, 2},
		{`[1,]`, api.ErrForm, 3},
		{`[1}`, api.ErrForm, 2},
		{`{1:2}`, api.ErrForm, 1},
		{`nulL`, api.ErrForm, 3},
		{"\"a\xFF\"", api.ErrUtf, 2},
		{strings.Repeat(`[`, mostDepth+1), api.ErrDeep, mostDepth},
		{`[` + strings.Repeat(`1,`, mostNodes) + `1]`, api.ErrMany, 1 + 2*(mostNodes-1)},
		{strings.Repeat(` `, mostBytes) + `1`, api.ErrMany, 0},
		{`{"a":1,"\u0061":2}`, api.ErrTwice, 7},
		{`1 2`, api.ErrMore, 2},
		{`[1e9999]`, api.ErrNum, 1},
	} {
		expectUnread(t, json, []byte(c.m), c.why, c.at)
	}
}

// P16.1, P16.2, P16.3: each fault of the reading of Cbor, at its byte.
func TestFaultsOfCbor(t *testing.T) {
	for _, c := range []struct {
		m   []byte
		why api.Errno
		at  int
	}{
		{nil, api.ErrEnd, 0},
		{x("82 01"), api.ErrEnd, 2},
		{x("42 01"), api.ErrEnd, 2},
		{x("19 01"), api.ErrEnd, 2},
		{x("9f 01"), api.ErrEnd, 2},
		{x("ff"), api.ErrForm, 0},
		{x("81 1c"), api.ErrForm, 1},
		{x("82 01 f8 1f"), api.ErrForm, 3},
		{x("62 61 ff"), api.ErrUtf, 2},
		{bytes.Repeat(x("81"), mostDepth+1), api.ErrDeep, mostDepth},
		{append(x("99 0400"), make([]byte, mostNodes)...), api.ErrMany, 3 + mostNodes - 1},
		{make([]byte, mostBytes+1), api.ErrMany, 0},
		{x("a2 01 02 18 01 03"), api.ErrTwice, 3},
		{x("01 02"), api.ErrMore, 1},
		{append(x("81 c2 59 0190"), bytes.Repeat(x("ff"), 400)...), api.ErrNum, 1},
	} {
		expectUnread(t, cbor, c.m, c.why, c.at)
	}
}

// many is a text, so often behind itself.
func many(text string, count int) string { return strings.Repeat(text, count) }

// P16.2: messages of Json whose one form has just 4096 bytes, and one more.
func TestLengthBoundOfJson(t *testing.T) {
	// Five numbers of 800 digits, with a text that fills up.
	long := func(fill int) []byte { return []byte(`[` + many(`1e799,`, 5) + `"` + many("a", fill) + `"]`) }
	digits := `[` + many(`1`+many("0", 799)+`,`, 5) + `"` + many("a", 87) + `"]`
	if len(digits) != mostBytes {
		t.Fatal(len(digits))
	}
	expectTurned(t, json, json, long(87), []byte(digits), none)
	expectRefused(t, json, json, long(88), api.ErrMany, 0)
	expectRefused(t, json, json, long(1000), api.ErrMany, 0)
	expectBackFault(t, json, json, long(88), none, api.ErrMany, 0)

	// Texts of Cbor that are told by escapes.
	escaped := func(fill int) []byte { return append(x("79 02ac"), many("\x00", 682)+many("a", fill)...) }
	expectTurned(t, cbor, json, escaped(2), []byte(`"`+many(`\u0000`, 682)+`aa"`), none)
	more := escaped(3)
	more[2]++
	expectRefused(t, cbor, json, more, api.ErrMany, 0)
	expectTurned(t, cbor, cbor, more, more, none)
	expectBackFault(t, json, cbor, more, none, api.ErrMany, 0)
}

// P16.2, P16.5: messages whose bytes in Cbor are just 4096, and one more; in Json the numbers would have no room, so that they can't come back to it.
func TestLengthBoundOfCbor(t *testing.T) {
	// Twelve numbers of 336 bytes each, with a text that fills up.
	text := func(fill int) []byte { return []byte(`[` + many(`1e799,`, 12) + `"` + many("a", fill) + `"]`) }
	item := func(fill int) []byte {
		return slices.Concat(x("8d"), bytes.Repeat(x("c4 82 19 031f 01"), 12), []byte{0x78, byte(fill)}, []byte(many("a", fill)))
	}
	for _, way := range []struct {
		from int
		m    func(int) []byte
	}{{json, text}, {cbor, item}} {
		turned, trailer, wrong := tran.Turn(way.from, cbor, way.m(61))
		if len(turned) != mostBytes || !bytes.Equal(trailer, none) || wrong != (api.Fault{}) {
			t.Fatal(len(turned), trailer, wrong)
		}
		expectModel(t, way.from, cbor, way.m(61))
		expectRefused(t, way.from, cbor, way.m(62), api.ErrMany, 0)
		expectBackFault(t, cbor, way.from, way.m(62), none, api.ErrMany, 0)
	}
	turned, _, _ := tran.Turn(json, cbor, text(61))
	expectBackFault(t, json, cbor, turned, none, api.ErrMany, 0)
	expectRefused(t, json, json, text(61), api.ErrMany, 0)
}

// P16.5: a message of Cbor whose one form is too long, while Json, which leaves the tags out, has room for it: it can't come back, as it has no one form.
func TestTurnedWithoutOneForm(t *testing.T) {
	tagged := bytes.Repeat(x("db 8000000000000000 00"), 350)
	m := slices.Concat(x("99 0161"), tagged, bytes.Repeat(x("c4 82 19 031f 01"), 3))
	if wrong := expectModel(t, cbor, json, m); wrong != (api.Fault{}) {
		t.Fatal(wrong)
	}
	turned, trailer, _ := tran.Turn(cbor, json, m)
	expectBackFault(t, cbor, json, turned, trailer, api.ErrMany, 0)
	expectRefused(t, cbor, cbor, m, api.ErrMany, 0)
}

// P16.2: an error of ToJson is a fault at 0, with its record: too many nodes, too deep, a text that is too long.
func TestErrorsOfToJson(t *testing.T) {
	numbered := func(count int) []byte {
		m := x("b9 0000")
		m[1], m[2] = byte(count>>8), byte(count)
		for i := range count {
			m = append(m, 0x19, byte(i>>8), byte(i), 0x00)
		}
		return m
	}
	expectModelOk(t, cbor, json, numbered(341))
	expectRefused(t, cbor, json, numbered(342), api.ErrMany, 0)
	expectModelOk(t, cbor, cbor, numbered(342))

	deep := func(count int) []byte { return append(bytes.Repeat(x("a1 01"), count), 0x01) }
	expectModelOk(t, cbor, json, deep(11))
	expectModelOk(t, cbor, json, append(x("81"), deep(11)...))
	expectRefused(t, cbor, json, deep(12), api.ErrDeep, 0)
	expectRefused(t, cbor, json, append(x("81 81"), deep(11)...), api.ErrDeep, 0)
	expectModelOk(t, cbor, cbor, deep(12))

	run := func(length int) []byte {
		return append([]byte{0x59, byte(length >> 8), byte(length)}, make([]byte, length)...)
	}
	// 2048 bytes have room in a Text, but not in a message; 2049 in none.
	expectTurned(t, cbor, json, run(2047), []byte(`"`+many("00", 2047)+`"`), []byte{1, 3, 0, 0})
	expectRefused(t, cbor, json, run(2048), api.ErrMany, 0)
	expectRefused(t, cbor, json, run(2049), api.ErrMany, 0)
	expectRefused(t, cbor, json, run(4093), api.ErrMany, 0)
	expectTurned(t, cbor, cbor, run(4093), run(4093), none)

	// ToJson's error is ahead of the writing's.
	expectRefused(t, cbor, json, slices.Concat(x("82"), run(2047), deep(12)), api.ErrDeep, 0)
	expectRefused(t, cbor, json, slices.Concat(x("82"), run(2049), deep(12)), api.ErrDeep, 0)
}

// expectModelOk wants a message to be turned, as the model does it.
func expectModelOk(t *testing.T, from, to int, m []byte) {
	t.Helper()
	if wrong := expectModel(t, from, to, m); wrong != (api.Fault{}) {
		t.Fatalf("turned %d to %d, %s: %v", from, to, told(m), wrong)
	}
}

// P16.2: an error of the writing is a fault at 0, with its record: numbers that are too many items in Cbor, or too deep, and Floats of many digits in Json.
func TestErrorsOfTheWriting(t *testing.T) {
	halves := func(count int) []byte { return []byte(`[` + many(`0.5,`, count-1) + `0.5]`) }
	expectModelOk(t, json, cbor, halves(255))
	expectRefused(t, json, cbor, halves(256), api.ErrKind, 0)
	expectModelOk(t, json, json, halves(256))
	for _, c := range []struct {
		number string
		most   int
	}{{`0.5`, mostDepth - 3}, {`18446744073709551616`, mostDepth - 2}, {`1`, mostDepth - 1}} {
		within := func(depth int) []byte { return []byte(many(`[`, depth) + c.number + many(`]`, depth)) }
		expectModelOk(t, json, cbor, within(c.most))
		if c.most+1 < mostDepth {
			expectRefused(t, json, cbor, within(c.most+1), api.ErrKind, 0)
			expectModelOk(t, json, json, within(c.most+1))
		}
	}
	least := func(count int) []byte {
		return append([]byte{0x80 + byte(count)}, bytes.Repeat(x("fb 0000000000000001"), count)...)
	}
	expectModelOk(t, cbor, json, least(5))
	expectRefused(t, cbor, json, least(6), api.ErrMany, 0)
	expectModelOk(t, cbor, cbor, least(6))
}

// P16.2: trailers of about as many losses as there can be nodes; one that would be, of a message that is too long, is left out.
func TestManyLosses(t *testing.T) {
	expectRefused(t, cbor, json, append(x("99 03ff"), bytes.Repeat(x("f7"), mostNodes-1)...), api.ErrMany, 0)
	expectModelOk(t, cbor, json, append(x("99 03ff"), bytes.Repeat(x("40"), mostNodes-1)...))
	m := append(x("99 01fe"), bytes.Repeat(x("c1 f7"), 510)...)
	expectModelOk(t, cbor, json, m)
	_, trailer, _ := tran.Turn(cbor, json, m)
	if !bytes.HasPrefix(trailer, x("877c 04 01 01 00 06 17 01 00 04 01 01 01 06 17 01 01")) {
		t.Fatal(told(trailer))
	}
}

// P16.3: the trailer's own faults, at its byte: it ends, has a number that may not be, or bytes behind it.
func TestFaultsOfTrailers(t *testing.T) {
	for _, c := range []struct {
		trailer string
		why     api.Errno
		at      int
	}{
		{"", api.ErrEnd, 0},
		{"01", api.ErrEnd, 1},
		{"01 03", api.ErrEnd, 2},
		{"01 03 00", api.ErrEnd, 3},
		{"01 03 00 01", api.ErrEnd, 4},
		{"02 03 00 00", api.ErrEnd, 4},
		{"80", api.ErrForm, 0},
		{"01 07 00 00", api.ErrForm, 1},
		{"01 00 00 00", api.ErrForm, 1},
		{"01 03 00 01 a000", api.ErrForm, 4},
		{"01 03 00 41", api.ErrMany, 3},
		{"9001", api.ErrMany, 0},
		{"00 00", api.ErrMore, 1},
		{"01 03 00 00 00", api.ErrMore, 4},
	} {
		for _, from := range []int{json, cbor} {
			expectBackFault(t, from, json, []byte(`"ff"`), x(c.trailer), c.why, c.at)
			expectBackFault(t, from, cbor, x("62 6666"), x(c.trailer), c.why, c.at)
			// Ahead of losses that do not fit, and of a tree that can't be written.
			expectBackFault(t, from, json, []byte(`1`), x(c.trailer), c.why, c.at)
			expectBackFault(t, from, cbor, x("f9 3c00"), x(c.trailer), c.why, c.at)
		}
	}
}

// P16.3: trailers whose losses do not fit to the tree: layer 14's error at 0.
func TestTrailersThatDoNotFit(t *testing.T) {
	for _, c := range []struct {
		m, trailer string
		why        api.Errno
	}{
		{`1`, "01 03 00 00", api.ErrArg},
		{`"f"`, "01 03 00 00", api.ErrArg},
		{`"FF"`, "01 03 00 00", api.ErrArg},
		{`2`, "01 01 bff880808080808000 00", api.ErrArg},
		{`null`, "01 01 bff880808080808000 00", api.ErrArg},
		{`1`, "01 02 fffc80808080808000 00", api.ErrArg},
		{`0`, "01 06 10 00", api.ErrArg},
		{`[1]`, "01 05 00 00", api.ErrArg},
		{`[[1,2,3]]`, "01 05 00 00", api.ErrArg},
		{`1`, "01 04 00 01 00", api.ErrPath},
		{`[1]`, "01 04 00 01 01", api.ErrPath},
		{`{"a":1}`, "01 04 00 01 02", api.ErrPath},
		{`[[1,1],[1,2]]`, "01 05 00 00", api.ErrTwice},
		{`null`, "01 06 18 00", api.ErrKind},
		{`1`, "18" + many("04 01 00", 24), api.ErrDeep},
		{`1`, "9000" + many("04 01 00", 2048), api.ErrMany},
		// The last loss is given back first.
		{`[1,null]`, "02 04 00 01 05 03 00 01 00", api.ErrArg},
		{`[1,null]`, "02 03 00 01 00 04 00 01 05", api.ErrPath},
	} {
		item, _, _ := tran.Turn(json, cbor, []byte(c.m))
		for _, from := range []int{json, cbor} {
			expectBackFault(t, from, json, []byte(c.m), x(c.trailer), c.why, 0)
			expectBackFault(t, from, cbor, item, x(c.trailer), c.why, 0)
		}
	}
	expectBack(t, cbor, json, []byte(`1`), x("17"+many("04 01 00", 23)), append(bytes.Repeat(x("c1"), 23), 0x01))
	// Ahead of a tree that can't be written.
	expectBackFault(t, json, cbor, x("81 f9 3c00"), x("01 03 00 00"), api.ErrArg, 0)
	expectBackFault(t, json, cbor, x("81 f9 3c00"), x("01 03 00 01 01"), api.ErrPath, 0)
}

// P16.3: a tree that was restored, but can't be written in from: the writing's error at 0.
func TestBackThatCanNotBeWritten(t *testing.T) {
	for _, c := range []struct{ m, trailer string }{
		{`"ff"`, "01 03 00 00"},
		{`1`, "01 04 05 00"},
		{`1`, "01 01 bff880808080808000 00"},
		{`null`, "01 06 17 00"},
		{`null`, "01 02 fffc80808080808000 00"},
		{`[[1,2]]`, "01 05 00 00"},
		{`{"00":1}`, "01 03 00 01 00"},
	} {
		expectBackFault(t, json, json, []byte(c.m), x(c.trailer), api.ErrKind, 0)
		item, _, _ := tran.Turn(json, cbor, []byte(c.m))
		expectBackFault(t, json, cbor, item, x(c.trailer), api.ErrKind, 0)
		if wrong := expectModelBack(t, cbor, json, []byte(c.m), x(c.trailer)); wrong != (api.Fault{}) {
			t.Fatal(c, wrong)
		}
	}
	// Tags that mean numbers.
	expectBackFault(t, cbor, json, []byte(`"ff"`), x("02 04 02 00 03 00 00"), api.ErrKind, 0)
	expectBackFault(t, cbor, json, []byte(`[1,2]`), x("01 04 04 00"), api.ErrKind, 0)
	expectBackFault(t, cbor, cbor, x("42 ffff"), x("01 04 03 00"), api.ErrKind, 0)
	// Bytes behind a tag that is too much.
	full := append(x("59 0ffd"), make([]byte, 4093)...)
	expectBack(t, cbor, cbor, full, none, full)
	expectBackFault(t, cbor, cbor, full, x("01 04 05 00"), api.ErrMany, 0)
}

// P16.3: what a trailer tells is given back, whatever the formats are.
func TestBackBetweenAllFormats(t *testing.T) {
	list, trailer := []byte(`[["a",1]]`), x("01 05 00 00")
	expectBack(t, json, json, list, trailer, []byte(`{"a":1}`))
	expectBack(t, cbor, json, list, trailer, x("a1 61 61 01"))
	expectBack(t, json, cbor, x("81 82 61 61 01"), trailer, []byte(`{"a":1}`))
	expectBack(t, cbor, cbor, x("81 82 61 61 01"), trailer, x("a1 61 61 01"))
	expectBack(t, cbor, cbor, x("81 62 3030"), x("01 03 00 01 00"), x("81 41 00"))
	expectBack(t, cbor, cbor, x("c1 62 3030"), x("01 03 00 01 00"), x("c1 41 00"))
}

// samples are messages of a format, in all the forms that these tests have.
func samples(format int) [][]byte {
	var all [][]byte
	for _, row := range both {
		all = append(all, [][]byte{json: []byte(row.json), cbor: x(row.cbor)}[format])
	}
	for _, digits := range []string{"82 f7 a1 01 82 f0 c1 a1 02 40", "9f c4 82 20 18 19 bf 61 61 f9 3c00 f5 7f 61 61 ff ff ff", "a2 01 02 c2 42 0102 fb 3fb999999999999a"} {
		if format == cbor {
			all = append(all, x(digits))
		}
	}
	for _, text := range []string{` { "a" : [ 1.50 , -0e1 , "\ud83d\ude00é" ] , "\u0062" : { } } `, `[true,false,null,"\n",18446744073709551616,-1e-3]`} {
		if format == json {
			all = append(all, []byte(text))
		}
	}
	return all
}

// P16.1, P16.2, R1: messages that end at each byte, go wrong at each byte, and have bytes behind them.
func TestWrongAtEachByte(t *testing.T) {
	for _, way := range pairs {
		seen := map[api.Errno]int{}
		for _, m := range samples(way[0]) {
			expectModelOk(t, way[0], way[1], m)
			for at := range m {
				seen[expectModel(t, way[0], way[1], m[:at]).Why]++
				for _, other := range []byte{0x00, 0x01, '"', '[', ']', 0x1C, 0x41, 0x61, 0x81, 0xC2, 0xF6, 0xF9, 0xFF, m[at] ^ 1, m[at] ^ 0x80} {
					wrong := slices.Clone(m)
					wrong[at] = other
					seen[expectModel(t, way[0], way[1], wrong).Why]++
				}
			}
			for _, other := range []byte{0x00, ' ', '1', ',', 0xF6, 0xFF} {
				seen[expectModel(t, way[0], way[1], append(slices.Clip(m), other)).Why]++
			}
		}
		for _, why := range []api.Errno{api.OK, api.ErrEnd, api.ErrForm, api.ErrUtf, api.ErrMore} {
			if seen[why] < 10 {
				t.Fatal(way, seen)
			}
		}
	}
}

// P16.3, R1: trailers that end at each byte, or go wrong there.
func TestTrailersWrongAtEachByte(t *testing.T) {
	seen := map[api.Errno]int{}
	for _, m := range samples(cbor) {
		turned, trailer, _ := tran.Turn(cbor, json, m)
		for at := range trailer {
			expectBackFault(t, cbor, json, turned, trailer[:at], api.ErrEnd, at)
			for other := range 256 {
				wrong := slices.Clone(trailer)
				wrong[at] = byte(other)
				seen[expectModelBack(t, cbor, json, turned, wrong).Why]++
			}
		}
		for other := range 256 {
			expectBackFault(t, cbor, json, turned, append(slices.Clip(trailer), byte(other)), api.ErrMore, len(trailer))
		}
	}
	for _, why := range []api.Errno{api.OK, api.ErrEnd, api.ErrForm, api.ErrMany, api.ErrMore, api.ErrArg, api.ErrPath, api.ErrKind} {
		if seen[why] < 5 {
			t.Fatal(seen)
		}
	}
}

// P16.2 to P16.6: messages by chance, right ones and spoiled ones, each way, against the model.
func TestChanceAgainstModel(t *testing.T) {
	c := chance(1616)
	for _, way := range pairs {
		seen := map[api.Errno]int{}
		lost := 0
		for i := range 6000 {
			m := c.message(way[0], 2+c.below(5))
			for range i % 3 {
				m = c.spoiled(m)
			}
			seen[expectModel(t, way[0], way[1], m).Why]++
			if _, trailer, _ := tran.Turn(way[0], way[1], m); len(trailer) > 1 {
				lost++
			}
		}
		for _, why := range []api.Errno{api.OK, api.ErrEnd, api.ErrForm, api.ErrMore} {
			if seen[why] < 20 {
				t.Fatal(way, seen)
			}
		}
		if way == [2]int{cbor, json} != (lost > 500) || way != [2]int{cbor, json} && lost != 0 {
			t.Fatal(way, lost)
		}
	}
}

// P16.3: messages that were turned, with trailers of their own, spoiled ones and those of others, turned back each way, against the model.
func TestBackByChance(t *testing.T) {
	c := chance(163)
	seen := map[api.Errno]int{}
	var other []byte
	for i := range 20_000 {
		way, back := pairs[c.below(4)], pairs[c.below(4)]
		turned, trailer, wrong := tran.Turn(cbor, way[1], c.message(cbor, 2+c.below(4)))
		if wrong.Why != api.OK {
			continue
		}
		own := trailer
		switch i % 4 {
		case 0:
			trailer = c.spoiled(trailer)
		case 1:
			trailer = other
		case 2:
			turned = c.spoiled(turned)
		}
		other = own
		seen[expectModelBack(t, back[0], way[1], turned, trailer).Why]++
		expectModelBack(t, back[0], back[1], turned, trailer)
	}
	for _, why := range []api.Errno{api.OK, api.ErrArg, api.ErrEnd, api.ErrForm, api.ErrMore, api.ErrPath, api.ErrKind} {
		if seen[why] < 20 {
			t.Fatal(seen)
		}
	}
}

// P16.1, P16.2, R1: all messages of two bytes, and any bytes by chance, are read or refused as the model says.
func TestAnyBytes(t *testing.T) {
	for _, way := range pairs {
		for a := range 256 {
			expectModel(t, way[0], way[1], []byte{byte(a)})
			for b := range 256 {
				expectModel(t, way[0], way[1], []byte{byte(a), byte(b)})
			}
		}
	}
	c := chance(2)
	for range 5000 {
		m := make([]byte, c.below(40))
		for i := range m {
			m[i] = byte(c.next())
		}
		for _, way := range pairs {
			expectModel(t, way[0], way[1], m)
			expectModelBack(t, way[0], way[1], m, m)
		}
	}
}

// P16.2, P16.7: the record that comes of a fault is turned once more, without a loss.
func TestRecordsOfFaultsAreTurned(t *testing.T) {
	c := chance(167)
	count := 0
	for range 3000 {
		way := pairs[c.below(4)]
		record, trailer, wrong := tran.Turn(way[0], way[1], c.spoiled(c.message(way[0], 4)))
		if wrong.Why == api.OK {
			continue
		}
		count++
		if len(trailer) != 0 {
			t.Fatal(told(record), trailer, wrong)
		}
		for _, to := range []int{json, cbor} {
			expectTurned(t, way[1], to, record, modelRecord(to, wrong), none)
		}
	}
	if count < 1000 {
		t.Fatal(count)
	}
}

// R1: what is longest, and what takes longest, ends soon.
func TestMuchToDo(t *testing.T) {
	long := make([]byte, 1<<20)
	full := bytes.Repeat([]byte(`[1,`), 1<<20)
	for _, m := range [][]byte{long, full, long[:mostBytes+1], full[:mostBytes+1]} {
		for _, format := range []int{json, cbor} {
			expectUnread(t, format, m, api.ErrMany, 0)
		}
	}
	expectBackFault(t, cbor, json, []byte(`1`), long, api.ErrMore, 1)
	expectBackFault(t, cbor, json, []byte(`1`), bytes.Repeat([]byte{0xFF}, 1<<20), api.ErrForm, 9)
	for _, way := range pairs {
		expectModel(t, way[0], way[1], []byte(`[`+many(`1e799,`, 600)+`1]`))
		expectModel(t, way[0], way[1], []byte(`[`+many(`1e-2000,`, 450)+`1]`))
		expectModel(t, way[0], way[1], append(x("98 fe"), bytes.Repeat(x("c4 82 19 031f 01"), 254)...))
		expectModel(t, way[0], way[1], append(x("99 01c6"), bytes.Repeat(x("fb 8000000000000001"), 454)...))
		expectModel(t, way[0], way[1], bytes.Repeat([]byte(`[`), mostBytes))
		expectModel(t, way[0], way[1], bytes.Repeat(x("c1"), mostBytes))
	}
}

// R6: lists that are nil and those that are empty are the same.
func TestEmptyLists(t *testing.T) {
	for _, empty := range [][]byte{nil, {}, make([]byte, 0, 9)} {
		for _, format := range []int{json, cbor} {
			expectUnread(t, format, empty, api.ErrEnd, 0)
		}
		expectBackFault(t, cbor, json, []byte(`1`), empty, api.ErrEnd, 0)
		expectBackFault(t, json, cbor, []byte{1}, empty, api.ErrEnd, 0)
	}
}

// R4: what is handed in does not turn, nor the room behind it, and nothing behind it is looked at.
func TestArgumentsDoNotTurn(t *testing.T) {
	c := chance(44)
	for range 1000 {
		way := pairs[c.below(4)]
		m := c.message(way[0], 5)
		roomy := append(slices.Clone(m), "]1, }\xFF\xF6"...)
		kept := slices.Clone(roomy)
		expectModel(t, way[0], way[1], roomy[:len(m)])
		turned, trailer, _ := tran.Turn(way[0], way[1], m)
		roomyTurned, roomyTrailer := append(slices.Clone(turned), 1, 2, 3), append(slices.Clone(trailer), 4, 5, 6)
		keptTurned, keptTrailer := slices.Clone(roomyTurned), slices.Clone(roomyTrailer)
		expectModelBack(t, way[0], way[1], roomyTurned[:len(turned)], roomyTrailer[:len(trailer)])
		if !bytes.Equal(roomy, kept) || !bytes.Equal(roomyTurned, keptTurned) || !bytes.Equal(roomyTrailer, keptTrailer) {
			t.Fatal(way, told(m))
		}
	}
}

// spanOf is the memory of a list, with the room behind it.
func spanOf[T any](list []T) [2]uintptr {
	from := uintptr(unsafe.Pointer(unsafe.SliceData(list)))
	var one T
	return [2]uintptr{from, from + uintptr(cap(list))*unsafe.Sizeof(one)}
}

// spansOf is all memory of a tree's lists.
func spansOf(n api.Node) [][2]uintptr {
	all := [][2]uintptr{spanOf(n.Bytes), spanOf(n.Keys), spanOf(n.Kids)}
	for _, part := range slices.Concat(n.Keys, n.Kids) {
		all = append(all, spansOf(part)...)
	}
	return all
}

// apart says whether no two of these pieces of memory overlap.
func apart(all [][2]uintptr) bool {
	all = slices.DeleteFunc(all, func(s [2]uintptr) bool { return s[0] == s[1] })
	slices.SortFunc(all, func(a, b [2]uintptr) int { return slices.Compare(a[:], b[:]) })
	for i := 1; i < len(all); i++ {
		if all[i-1][1] > all[i][0] {
			return false
		}
	}
	return true
}

// R4: what is answered is new memory, of which no two lists share any.
func TestAnswersAreNewMemory(t *testing.T) {
	c := chance(45)
	for i := range 1000 {
		way := pairs[c.below(4)]
		m := c.message(way[0], 5)
		if i%4 == 0 {
			m = c.spoiled(m)
		}
		n, _ := tran.Read(way[0], m)
		turned, trailer, wrong := tran.Turn(way[0], way[1], m)
		again, trailer2, _ := tran.Turn(way[0], way[1], m)
		back, _ := tran.Back(way[0], way[1], turned, trailer)
		record, record2 := tran.Record(way[1], wrong), tran.Record(way[1], wrong)
		all := append(spansOf(n), spanOf(m), spanOf(turned), spanOf(trailer), spanOf(again), spanOf(trailer2), spanOf(back), spanOf(record), spanOf(record2))
		if !apart(all) {
			t.Fatalf("%d to %d, %s: answers share memory", way[0], way[1], told(m))
		}
	}
}

// R4: what was answered may be written over and added to, and so may what was handed in, without turning anything else.
func TestAnswersAreTheCallers(t *testing.T) {
	c := chance(46)
	spoil := func(b []byte) {
		for i := range b[:cap(b)] {
			b[:cap(b)][i] ^= 0xA5
		}
	}
	for range 1000 {
		way := pairs[c.below(4)]
		m := c.message(way[0], 5)
		kept := slices.Clone(m)
		n, readFault := tran.Read(way[0], m)
		turned, trailer, wrong := tran.Turn(way[0], way[1], m)
		spoil(m)
		want, f := modelRead(way[0], kept)
		if readFault != f || !reflect.DeepEqual(words(n), words(want)) {
			t.Fatalf("%s: what was read has turned", told(kept))
		}
		wantTurned, wantTrailer, _ := modelTurn(way[0], way[1], kept)
		if !bytes.Equal(turned, wantTurned) || !bytes.Equal(trailer, wantTrailer) {
			t.Fatalf("%s: what was answered has turned with what was handed in", told(kept))
		}
		spoil(turned)
		if !bytes.Equal(trailer, wantTrailer) {
			t.Fatalf("%s: the trailer has turned with the message", told(kept))
		}
		spoil(trailer)
		if wrong.Why == api.OK {
			expectTurned(t, way[0], way[1], kept, wantTurned, wantTrailer)
		}
	}
	// A record that is written over leaves the next one as it is.
	for _, to := range []int{json, cbor} {
		spoil(tran.Record(to, fault(api.ErrEnd, 1)))
		if got := tran.Record(to, fault(api.ErrEnd, 1)); !bytes.Equal(got, modelRecord(to, fault(api.ErrEnd, 1))) {
			t.Fatal(told(got))
		}
	}
}

// words is a tree in words.
func words(n api.Node) string { return fmt.Sprint(n) }

// R3: the same calls have the same answers, whatever was called in between.
func TestSameAnswers(t *testing.T) {
	c := chance(47)
	type call struct {
		way    [2]int
		m      []byte
		answer string
	}
	tell := func(way [2]int, m []byte) string {
		n, readFault := tran.Read(way[0], m)
		turned, trailer, wrong := tran.Turn(way[0], way[1], m)
		back, backFault := tran.Back(way[0], way[1], turned, trailer)
		return fmt.Sprint(words(n), readFault, turned, trailer, wrong, back, backFault, tran.Record(way[0], wrong))
	}
	var all []call
	for i := range 500 {
		way := pairs[c.below(4)]
		m := c.message(way[0], 5)
		if i%3 == 0 {
			m = c.spoiled(m)
		}
		all = append(all, call{way, m, tell(way, m)})
	}
	for _, one := range slices.Backward(all) {
		if tell(one.way, one.m) != one.answer {
			t.Fatalf("%d to %d, %s: another answer than before", one.way[0], one.way[1], told(one.m))
		}
	}
}
