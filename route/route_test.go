package route_test

import (
	"bytes"
	"math"
	"slices"
	"testing"

	"gantline/api"
	"gantline/route"
	"gantline/tran"
)

// The document's example.
func TestExample(t *testing.T) {
	got, why := route.Item(cbor, json, x("41 ff"))
	if want := []byte{4, '"', 'f', 'f', '"', 1, 3, 0, 0}; why != api.OK || !bytes.Equal(got, want) {
		t.Fatalf("Item is %v, %v: not %v", got, why, want)
	}
	expectOpen(t, got, []byte(`"ff"`), []byte{1, 3, 0, 0})
}

// P21.1, P21.7: messages of both formats to both formats, with losses and without.
func TestItemByHand(t *testing.T) {
	for _, row := range []struct {
		from, to          int
		m, comes, trailer []byte
	}{
		{json, json, []byte(`[1]`), []byte(`[1]`), none},
		{json, cbor, []byte(`[1]`), x("81 01"), none},
		{cbor, json, x("81 01"), []byte(`[1]`), none},
		{cbor, cbor, x("81 01"), x("81 01"), none},
		{json, json, []byte(" [ 1.50 ,\t\"\\u0061\" ]\n"), []byte(`[15e-1,"a"]`), none},
		{json, cbor, []byte(`{"a": [true, null]}`), x("a1 61 61 82 f5 f6"), none},
		{json, cbor, []byte(`-18446744073709551617`), x("c3 49 010000000000000000"), none},
		{cbor, json, x("a1 61 61 82 f5 f6"), []byte(`{"a":[true,null]}`), none},
		{cbor, json, x("5f 41 ff ff"), []byte(`"ff"`), []byte{1, 3, 0, 0}},
		{cbor, json, x("f9 3c00"), []byte(`1`), x("01 01 bff880808080808000 00")},
		{cbor, json, x("d8 64 d8 65 00"), []byte(`0`), []byte{2, 4, 100, 0, 4, 101, 0}},
		{cbor, json, x("a1 01 02"), []byte(`[[1,2]]`), []byte{1, 5, 0, 0}},
		{cbor, json, x("82 f7 e0"), []byte(`[null,null]`), []byte{2, 6, 23, 1, 0, 6, 0, 1, 1}},
		{cbor, cbor, x("5f 41 ff ff"), x("41 ff"), none},
		{cbor, cbor, x("d8 64 d8 65 00"), x("d8 64 d8 65 00"), none},
		{cbor, cbor, x("bf 01 02 ff"), x("a1 01 02"), none},
	} {
		expectItem(t, row.from, row.to, row.m, row.comes, row.trailer)
	}
}

// P21.1, P21.7: of what is no message the record of its first wrong byte comes, without a trailer, in the format of the consumer.
func TestItemOfRecords(t *testing.T) {
	for _, row := range []struct {
		from       int
		m          []byte
		json, cbor string
	}{
		{json, nil, `{"error":3,"at":0}`, "a2 65 6572726f72 03 62 6174 00"},
		{json, []byte(`[`), `{"error":3,"at":1}`, "a2 65 6572726f72 03 62 6174 01"},
		{json, []byte(`[1]]`), `{"error":10,"at":3}`, "a2 65 6572726f72 0a 62 6174 03"},
		{json, []byte("\"\xff\""), `{"error":6,"at":1}`, "a2 65 6572726f72 06 62 6174 01"},
		{json, []byte(`{"a":1,"a":2}`), `{"error":9,"at":7}`, "a2 65 6572726f72 09 62 6174 07"},
		{cbor, nil, `{"error":3,"at":0}`, "a2 65 6572726f72 03 62 6174 00"},
		{cbor, x("81"), `{"error":3,"at":1}`, "a2 65 6572726f72 03 62 6174 01"},
		{cbor, x("00 00"), `{"error":10,"at":1}`, "a2 65 6572726f72 0a 62 6174 01"},
		{cbor, x("81 1c"), `{"error":5,"at":1}`, "a2 65 6572726f72 05 62 6174 01"},
		{cbor, x("61 ff"), `{"error":6,"at":1}`, "a2 65 6572726f72 06 62 6174 01"},
	} {
		expectItem(t, row.from, json, row.m, []byte(row.json), nil)
		expectItem(t, row.from, cbor, row.m, x(row.cbor), nil)
	}
}

// P21.1: of a message that is read, but can't be written, the record comes, just as of one whose item is too long.
func TestItemOfWhatIsNotWritten(t *testing.T) {
	for _, m := range [][]byte{
		append(x("59 0c00"), make([]byte, 0x0C00)...),
		append(x("59 0ffd"), make([]byte, 0x0FFD)...),
	} {
		if _, _, fault := tran.Turn(cbor, json, m); fault != (api.Fault{Why: api.ErrMany}) {
			t.Fatalf("Turn(%s) has the fault %v", told(m), fault)
		}
		expectItem(t, cbor, json, m, []byte(manyJson), nil)
	}
}

// P21.1, P21.2: what no format has, on either side, and ahead of a message that is too long.
func TestWrongFormats(t *testing.T) {
	for _, wrong := range wrongFormats() {
		for _, other := range append(wrongFormats(), json, cbor) {
			for _, m := range [][]byte{nil, []byte(`[1]`), x("41 ff"), make([]byte, mostBytes), make([]byte, mostBytes+1)} {
				expectItemError(t, wrong, other, m, api.ErrArg)
				expectItemError(t, other, wrong, m, api.ErrArg)
			}
			for _, most := range append(wrongMosts(), 1, mostQueue) {
				expectNoRoute(t, most, wrong, other)
				expectNoRoute(t, most, other, wrong)
			}
		}
	}
}

// expectNoRoute wants New to refuse.
func expectNoRoute(t *testing.T, most, from, to int) {
	t.Helper()
	if r, why := route.New(most, from, to); r != nil || why != api.ErrArg {
		t.Fatalf("New(%d, %d, %d) is %v, %v", most, from, to, r, why)
	}
}

// P21.1: messages of 4096 bytes have an item, be they whole or not; ones of more have none.
func TestMessageLengths(t *testing.T) {
	gaps := func(m string, n int) []byte {
		return append([]byte(m), bytes.Repeat([]byte{' '}, n-len(m))...)
	}
	expectItem(t, json, json, gaps(`[1]`, mostBytes-1), []byte(`[1]`), none)
	expectItem(t, json, json, gaps(`[1]`, mostBytes), []byte(`[1]`), none)
	expectItem(t, json, cbor, gaps(`[1]`, mostBytes), x("81 01"), none)
	expectItem(t, json, json, gaps(`[1`, mostBytes), []byte(`{"error":3,"at":4096}`), nil)
	expectItem(t, json, json, text(mostBytes-2), []byte(manyJson), nil)
	expectItem(t, json, cbor, text(mostBytes-2), []byte(manyCbor), nil)
	long := append(x("59 0ffd"), make([]byte, mostBytes-3)...)
	expectItem(t, cbor, cbor, long, []byte(manyCbor), nil)
	expectItem(t, cbor, json, long, []byte(manyJson), nil)
	expectItem(t, cbor, json, long[:mostBytes-1], []byte(`{"error":3,"at":4095}`), nil)
	for _, way := range ways {
		for _, n := range []int{1, 2, 3, 100, mostBytes, 1 << 20} {
			expectItemError(t, way[0], way[1], gaps(`[1]`, mostBytes+n), api.ErrMany)
			expectItemError(t, way[0], way[1], make([]byte, mostBytes+n), api.ErrMany)
			expectItemError(t, way[0], way[1], append(slices.Clone(long), make([]byte, n)...), api.ErrMany)
		}
	}
}

// P21.1, P21.5: texts of all lengths, each way: the short number has one byte up to 127 bytes that come, then two; an item has up to 1100 bytes, and from there on it is the record of ErrMany.
func TestItemLengths(t *testing.T) {
	for n := range 1200 {
		one := bytes.Repeat([]byte{'a'}, n)
		forms := [][]byte{nil, []byte(`"` + string(one) + `"`), append(textHead(n), one...)}
		for _, way := range ways {
			comes := forms[way[1]]
			if len(comes) > mostItem-3 {
				expectItem(t, way[0], way[1], forms[way[0]], openMany(way[1]), nil)
				continue
			}
			expectItem(t, way[0], way[1], forms[way[0]], comes, none)
		}
	}
}

// textHead is how a Text of so many bytes begins in Cbor.
func textHead(n int) []byte {
	switch {
	case n < 24:
		return []byte{0x60 | byte(n)}
	case n < 256:
		return []byte{0x78, byte(n)}
	}
	return []byte{0x79, byte(n >> 8), byte(n)}
}

// openMany is the record of {ErrMany, 0}.
func openMany(to int) []byte {
	if to == json {
		return []byte(manyJson)
	}
	return []byte(manyCbor)
}

// P21.1: messages that come of 127 and of 128 bytes, and their items' first bytes.
func TestShortNumber(t *testing.T) {
	for _, row := range []struct {
		n    int
		want []byte
	}{
		{124, []byte{126, '"'}},
		{125, []byte{127, '"'}},
		{126, []byte{129, 0, '"'}},
		{127, []byte{129, 1, '"'}},
		{298, []byte{130, 44, '"'}},
		{1095, []byte{136, 73, '"'}},
		{1096, []byte{18, '{'}},
	} {
		got, _ := route.Item(json, json, text(row.n))
		if !bytes.HasPrefix(got, row.want) {
			t.Errorf("%d bytes: the item begins with % d", row.n+2, got[:3])
		}
	}
}

// P21.1, P21.5: items of 1100 bytes and of one more, with a trailer that tells losses: a short one, a long one behind a long message, and a long one behind a message that a short number of one byte tells.
func TestItemLengthsWithLosses(t *testing.T) {
	for _, row := range []struct {
		message func(n int) (m, comes, trailer []byte)
		most    int
	}{
		{withBytes, 1084},
		{withTags, 493},
		{withTwoTags, 30},
	} {
		for n := row.most - 3; n <= row.most; n++ {
			m, comes, trailer := row.message(n)
			if got, want := len(item(comes, trailer)), mostItem-row.most+n; got != want {
				t.Fatalf("the test's item has %d bytes: not %d", got, want)
			}
			expectItem(t, cbor, json, m, comes, trailer)
		}
		for n := row.most + 1; n <= row.most+3; n++ {
			m, _, _ := row.message(n)
			expectItem(t, cbor, json, m, []byte(manyJson), nil)
		}
	}
}

// withBytes are Bytes and a Text.
func withBytes(n int) (m, comes, trailer []byte) {
	tail := bytes.Repeat([]byte{'a'}, n)
	m = slices.Concat(x("82 41 ff"), textHead(n), tail)
	comes = slices.Concat([]byte(`["ff","`), tail, []byte(`"]`))
	return m, comes, []byte{1, 3, 0, 1, 0}
}

// withTags are a hundred numbers, each with a Tag, and a Text.
func withTags(n int) (m, comes, trailer []byte) {
	tail := bytes.Repeat([]byte{'a'}, n)
	m, comes, trailer = x("98 65"), []byte(`[`), []byte{100}
	for i := range 100 {
		m = append(m, 0xD8, 0x64, 0)
		comes = append(comes, "0,"...)
		trailer = append(trailer, 4, 100, 1, byte(i))
	}
	m = slices.Concat(m, textHead(n), tail)
	return m, slices.Concat(comes, []byte(`"`), tail, []byte(`"]`)), trailer
}

// withTwoTags are some numbers, each with two great Tags, and a Text.
func withTwoTags(n int) (m, comes, trailer []byte) {
	tail := bytes.Repeat([]byte{'a'}, n)
	m, comes, trailer = x("98 27"), []byte(`[`), []byte{76}
	for i := range 38 {
		m = append(m, x("db ffffffffffffffff db ffffffffffffffff 00")...)
		comes = append(comes, "0,"...)
		one := append([]byte{4}, x("81ffffffffffffffff7f")...)
		one = append(one, 1, byte(i))
		trailer = slices.Concat(trailer, one, one)
	}
	m = slices.Concat(m, textHead(n), tail)
	return m, slices.Concat(comes, []byte(`"`), tail, []byte(`"]`)), trailer
}

// P21.1: items of all short numbers up to two bytes, with trailers that are empty and not: as long as the bytes behind the number, one longer, and far longer.
func TestOpen(t *testing.T) {
	comes := bytes.Repeat([]byte{0x80, 7, 0, 0xFF}, 300)
	for n := range 600 {
		for _, trailer := range [][]byte{nil, {0}, {1, 3, 0, 0}, {0x80}, {0xFF, 0xFF}} {
			b := item(comes[:n], trailer)
			expectOpen(t, b, comes[:n], trailer)
			if n > 0 {
				expectClosed(t, b[:len(short(n))+n-1])
				expectClosed(t, short(n))
			}
		}
	}
	expectOpen(t, []byte{0}, nil, nil)
	expectOpen(t, []byte{0, 0}, nil, []byte{0})
	expectOpen(t, []byte{1, 0}, []byte{0}, nil)
	expectClosed(t, []byte{1})
	expectOpen(t, []byte{2, 1, 2, 3}, []byte{1, 2}, []byte{3})
	expectOpen(t, []byte{3, 1, 2, 3}, []byte{1, 2, 3}, nil)
	expectClosed(t, []byte{4, 1, 2, 3})
}

// P21.1: an item that is opened may have more bytes than any that Item answers.
func TestOpenLong(t *testing.T) {
	for _, n := range []int{mostItem - 2, mostItem - 1, mostItem, mostItem + 1, mostBytes, mostBytes + 1, 1 << 14, 1 << 20} {
		comes := bytes.Repeat([]byte{0xA5}, n)
		expectOpen(t, item(comes, nil), comes, nil)
		expectOpen(t, item(comes, []byte{1, 2}), comes, []byte{1, 2})
		expectOpen(t, item([]byte{1, 2}, comes), []byte{1, 2}, comes)
		expectClosed(t, item(comes, nil)[:len(short(n))+n-1])
	}
}

// P21.1: what does not begin with a short number is no item, whatever is behind it.
func TestOpenWithoutNumber(t *testing.T) {
	for _, b := range [][]byte{
		nil, {}, {128}, {128, 0}, {128, 1, 5, 5}, {129}, {255}, {129, 128}, {255, 255, 255},
		x("80 00 00 00 00 00 00 00 00 00 00"),
		x("82 80 80 80 80 80 80 80 80 00"), // 2^64
		x("ff ff ff ff ff ff ff ff ff 7f"),
		x("81 80 80 80 80 80 80 80 80 80 00"),
	} {
		expectClosed(t, b)
		if len(b) >= 10 {
			expectClosed(t, append(b, make([]byte, 2000)...))
		}
	}
}

// P21.1: short numbers that no list is as long as, up to all 64 bits.
func TestOpenFarNumbers(t *testing.T) {
	for _, number := range []string{
		"81 80 80 80 00",                // 2^28
		"84 80 80 80 00",                // 2^30
		"88 80 80 80 00",                // 2^31
		"90 80 80 80 00",                // 2^32
		"90 80 80 80 02",                // 2^32 and 2
		"ff ff ff ff ff ff ff ff 7f",    // 2^63 less 1
		"81 80 80 80 80 80 80 80 80 00", // 2^63
		"81 80 80 80 80 80 80 80 80 02", // 2^63 and 2
		"81 ff ff ff ff ff ff ff ff 7e", // 2^64 less 2
		"81 ff ff ff ff ff ff ff ff 7f", // 2^64 less 1
	} {
		for _, behind := range []int{0, 1, 2, 3, 100, 5000} {
			expectClosed(t, append(x(number), make([]byte, behind)...))
		}
	}
}

// P21.1, R1: any bytes are opened as the model does it, and ones near to an item.
func TestOpenAgainstModel(t *testing.T) {
	expectSame := func(b []byte) {
		t.Helper()
		if comes, trailer, why := modelOpen(b); why != api.OK {
			expectClosed(t, b)
		} else {
			expectOpen(t, b, comes, trailer)
		}
	}
	for one := range 256 {
		expectSame([]byte{byte(one)})
		for two := range 256 {
			expectSame([]byte{byte(one), byte(two)})
			expectSame(append([]byte{byte(one), byte(two)}, make([]byte, 130)...))
			expectSame([]byte{1, byte(one), byte(two)})
		}
	}
	c := chance(211)
	for range 30000 {
		b := make([]byte, c.below(14))
		for i := range b {
			b[i] = byte(c.next())
			if c.below(3) == 0 {
				b[i] = []byte{0, 1, 127, 128, 129, 255}[c.below(6)]
			}
		}
		expectSame(b)
		b = append(short(c.below(300)), make([]byte, c.below(300))...)
		expectSame(b)
	}
}

// P21.1, P21.5, P21.7: messages by chance have the item that the model has, and it is what Turn answered, or the record of ErrMany.
func TestItemAgainstModel(t *testing.T) {
	c := chance(2100)
	seen := map[string]int{}
	for row := range 12000 {
		from, to := 1+row%2, 1+row/2%2
		m := c.message(from)
		want, wantWhy := modelItem(from, to, m)
		got, why := route.Item(from, to, m)
		if why != wantWhy || !bytes.Equal(got, want) {
			t.Fatalf("Item(%d, %d, %s) is %s, %v: not %s, %v", from, to, told(m), told(got), why, told(want), wantWhy)
		}
		if why != api.OK {
			seen["none"]++
			continue
		}
		comes, trailer, fault := tran.Turn(from, to, m)
		opened, rest, why := route.Open(got)
		switch {
		case why != api.OK || len(got) > mostItem:
			t.Fatalf("Item(%d, %d, %s) is %s: %v", from, to, told(m), told(got), why)
		case bytes.Equal(opened, comes) && bytes.Equal(rest, trailer):
			seen[[]string{"turned", "turned with losses", "record"}[kindOf(trailer, fault)]]++
		case bytes.Equal(opened, tran.Record(to, api.Fault{Why: api.ErrMany})) && len(rest) == 0:
			seen["too long"]++
		default:
			t.Fatalf("Item(%d, %d, %s) opens to %s, %s: not %s, %s", from, to, told(m), told(opened), told(rest), told(comes), told(trailer))
		}
	}
	for _, name := range []string{"none", "turned", "turned with losses", "record", "too long"} {
		if seen[name] < 50 {
			t.Errorf("%d of the messages are of the kind %q", seen[name], name)
		}
	}
}

// kindOf is 0 of a message that was turned without losses, 1 with losses, 2 of one that is none.
func kindOf(trailer []byte, fault api.Fault) int {
	switch {
	case fault.Why != api.OK:
		return 2
	case len(trailer) > 1:
		return 1
	}
	return 0
}

// P21.2, P21.3: each route that may be has no items.
func TestNew(t *testing.T) {
	for most := 1; most <= mostQueue; most++ {
		for _, way := range ways {
			r := made(t, most, way[0], way[1])
			expectCounts(t, r, 0, most, 0, 0)
			expectNothing(t, r)
			expectCounts(t, r, 0, most, 0, 0)
		}
	}
}

// P21.2: routes that may not be.
func TestNewWrong(t *testing.T) {
	for _, most := range wrongMosts() {
		for _, way := range ways {
			expectNoRoute(t, most, way[0], way[1])
		}
	}
}

// P21.2, P21.3, P21.4: messages that are offered till none has room any more, and taken till none waits, at each length, several times.
func TestFillAndEmpty(t *testing.T) {
	for most := 1; most <= mostQueue; most++ {
		r := made(t, most, json, json)
		for round := range 4 {
			first, size := round*most, 0
			for i := range most {
				expectCounts(t, r, i, most-i, first+i, size)
				offers(t, r, numbered(first+i))
				size += len(itemOf(first + i))
				expectPeek(t, r, itemOf(first))
			}
			expectCounts(t, r, most, 0, first+most, size)
			expectOffer(t, r, numbered(0), api.ErrWait)
			expectCounts(t, r, most, 0, first+most, size)
			for i := range most {
				expectPeek(t, r, itemOf(first+i))
				expectCounts(t, r, most-i, i, first+most, size)
				expectTake(t, r, itemOf(first+i))
				size -= len(itemOf(first + i))
				expectCounts(t, r, most-i-1, i+1, first+most, size)
			}
			expectNothing(t, r)
			expectCounts(t, r, 0, most, first+most, 0)
		}
	}
}

// P21.2, P21.4: a route with most items, with one fewer, and so on, goes on: behind each Take just one more is taken by Offer.
func TestGoesOnAtEachLength(t *testing.T) {
	for _, most := range []int{1, 2, 3, 7, 33, 63, mostQueue} {
		for waits := range most + 1 {
			r := filled(t, most, 0, waits)
			for n := range 3 * mostQueue {
				if waits == most {
					expectOffer(t, r, numbered(0), api.ErrWait)
					expectTake(t, r, itemOf(n))
					offers(t, r, numbered(n+waits))
				} else {
					offers(t, r, numbered(n+waits))
					expectTake(t, r, itemOf(n))
				}
				if r.Len() != waits || r.Room() != most-waits || r.Offered() != waits+n+1 {
					t.Fatalf("most %d, %d wait: %d, %d, %d", most, waits, r.Len(), r.Room(), r.Offered())
				}
			}
			for n := 3 * mostQueue; n < 3*mostQueue+waits; n++ {
				expectTake(t, r, itemOf(n))
			}
			expectNothing(t, r)
		}
	}
}

// P21.2, P21.6: with most items that wait each Offer is refused with ErrWait, also of a message that is too long; with one fewer that is ErrMany; neither turns anything.
func TestRefusedOffers(t *testing.T) {
	for most := 1; most <= mostQueue; most++ {
		for _, gone := range []int{0, 1, most, mostQueue - 1} {
			r := filled(t, most, gone, most-1)
			size := r.Bytes()
			for range 3 {
				expectOffer(t, r, make([]byte, mostBytes+1), api.ErrMany)
				expectOffer(t, r, make([]byte, 1<<16), api.ErrMany)
				expectCounts(t, r, most-1, 1, gone+most-1, size)
			}
			last := gone + most - 1
			offers(t, r, numbered(last))
			size += len(itemOf(last))
			for _, m := range [][]byte{nil, []byte(`[1]`), []byte(`[`), text(2000), make([]byte, mostBytes), make([]byte, mostBytes+1)} {
				expectOffer(t, r, m, api.ErrWait)
				expectCounts(t, r, most, 0, last+1, size)
				expectPeek(t, r, itemOf(gone))
			}
			for n := gone; n <= last; n++ {
				expectTake(t, r, itemOf(n))
			}
			expectNothing(t, r)
		}
	}
}

// P21.2: what is no message is taken by Offer, too, and its record waits; and so does that of ErrMany.
func TestOfferOfAnyBytes(t *testing.T) {
	r := made(t, 6, cbor, json)
	offers(t, r, nil, x("41 ff"), x("1c"), append(x("59 0600"), make([]byte, 0x600)...), make([]byte, mostBytes), x("01"))
	want := [][]byte{
		item([]byte(`{"error":3,"at":0}`), nil),
		item([]byte(`"ff"`), []byte{1, 3, 0, 0}),
		item([]byte(`{"error":5,"at":0}`), nil),
		many(json),
		item([]byte(`{"error":10,"at":1}`), nil),
		item([]byte(`1`), none),
	}
	expectCounts(t, r, 6, 0, 6, len(slices.Concat(want...)))
	for _, one := range want {
		expectTake(t, r, one)
	}
	expectNothing(t, r)
}

// P21.3, P21.5: a route that is full of items of 1100 bytes.
func TestMostBytes(t *testing.T) {
	for most := 1; most <= mostQueue; most++ {
		r := made(t, most, json, json)
		for i := range most {
			offers(t, r, text(1095))
			expectCounts(t, r, i+1, most-i-1, i+1, mostItem*(i+1))
		}
		expectOffer(t, r, text(1095), api.ErrWait)
		expectTake(t, r, item(text(1095), none))
		offers(t, r, text(1096))
		expectCounts(t, r, most, 0, most+1, mostItem*(most-1)+len(many(json)))
	}
}

// P21.2: Peek turns nothing, however often it is asked.
func TestPeekTurnsNothing(t *testing.T) {
	r := filled(t, 3, 2, 2)
	for range 10 {
		expectPeek(t, r, itemOf(2))
		expectCounts(t, r, 2, 1, 4, 10)
	}
	expectTake(t, r, itemOf(2))
	for range 10 {
		expectPeek(t, r, itemOf(3))
		expectCounts(t, r, 1, 2, 4, 5)
	}
	expectTake(t, r, itemOf(3))
	for range 10 {
		expectNothing(t, r)
		expectCounts(t, r, 0, 3, 4, 0)
	}
	offers(t, r, numbered(4))
	expectPeek(t, r, itemOf(4))
	expectCounts(t, r, 1, 2, 5, 5)
}

// P21.3, R5: a nil route and one that New did not give, at each method, in any order, at right and wrong arguments.
func TestNotMade(t *testing.T) {
	for _, r := range []*route.Route{nil, {}, new(route.Route)} {
		for range 3 {
			for _, m := range [][]byte{nil, {}, []byte(`[1]`), x("41 ff"), []byte(`[`), make([]byte, mostBytes), make([]byte, mostBytes+1)} {
				expectOffer(t, r, m, api.ErrNil)
				expectNothing(t, r)
				expectCounts(t, r, 0, 0, 0, 0)
			}
		}
	}
}

// R3: several routes know nothing of one another.
func TestRoutesApart(t *testing.T) {
	up, down, third := made(t, 2, json, cbor), made(t, 1, cbor, json), made(t, 2, json, cbor)
	offers(t, up, []byte(`[1]`))
	expectCounts(t, down, 0, 1, 0, 0)
	expectCounts(t, third, 0, 2, 0, 0)
	offers(t, down, x("81 02"))
	offers(t, third, []byte(`[3]`), []byte(`[4]`))
	expectOffer(t, down, x("81 05"), api.ErrWait)
	expectOffer(t, third, []byte(`[5]`), api.ErrWait)
	offers(t, up, []byte(`[5]`))
	expectTake(t, third, item(x("81 03"), none))
	expectTake(t, up, item(x("81 01"), none))
	expectTake(t, down, item([]byte(`[2]`), none))
	expectNothing(t, down)
	expectTake(t, up, item(x("81 05"), none))
	expectTake(t, third, item(x("81 04"), none))
	expectCounts(t, up, 0, 2, 2, 0)
	expectCounts(t, down, 0, 1, 1, 0)
	expectCounts(t, third, 0, 2, 2, 0)
}

// R4: no call writes into bytes that it is handed, or into the room behind them.
func TestArgumentsStay(t *testing.T) {
	c := chance(214)
	for row := range 400 {
		from, to := 1+row%2, 1+row/2%2
		m := c.message(from)
		whole := append(slices.Clone(m), bytes.Repeat([]byte{0xA5}, 32)...)
		before := slices.Clone(whole)
		route.Item(from, to, whole[:len(m)])
		made(t, 1, from, to).Offer(whole[:len(m)])
		route.Open(whole[:len(m)])
		route.Open(whole)
		if !bytes.Equal(whole, before) {
			t.Fatalf("%s was written into", told(m))
		}
	}
}

// R4: a message that is written over behind Offer turns nothing.
func TestMessageIsNotKept(t *testing.T) {
	for _, way := range ways {
		m := []byte(`"abc"`)
		if way[0] == cbor {
			m = []byte("\x63abc")
		}
		want, _ := modelItem(way[0], way[1], m)
		r := made(t, 3, way[0], way[1])
		for range 3 {
			one := slices.Clone(m)
			offers(t, r, one)
			overwrite(one)
		}
		for range 3 {
			expectTake(t, r, want)
		}
	}
}

// overwrite turns all bytes, up to all room that there is.
func overwrite(b []byte) {
	b = b[:cap(b)]
	for i := range b {
		b[i] ^= 0xFF
	}
}

// R4: what Item and Open answer may be written over, and turns neither what they were handed nor one another.
func TestAnswersAreTheCallers(t *testing.T) {
	m := x("82 41 ff 61 61")
	want := item([]byte(`["ff","a"]`), []byte{1, 3, 0, 1, 0})
	for _, to := range []int{json, cbor} {
		first, _ := route.Item(cbor, to, m)
		second, _ := route.Item(cbor, to, m)
		kept := slices.Clone(second)
		overwrite(first)
		if !bytes.Equal(m, x("82 41 ff 61 61")) || !bytes.Equal(second, kept) {
			t.Fatal("an item shares its bytes")
		}
	}
	for n := range 3 {
		b := slices.Clone(want)
		comes, trailer, _ := route.Open(b)
		again, rest, _ := route.Open(b)
		switch n {
		case 0:
			overwrite(comes)
			comes = []byte(`["ff","a"]`)
		case 1:
			overwrite(trailer)
			trailer = []byte{1, 3, 0, 1, 0}
		case 2:
			overwrite(b)
			b = want
		}
		if !bytes.Equal(b, want) || !bytes.Equal(comes, again) || !bytes.Equal(trailer, rest) {
			t.Fatalf("case %d: what is opened shares its bytes", n)
		}
		expectOpen(t, want, again, rest)
	}
}

// R4: records share no bytes with one another.
func TestRecordsAreTheCallers(t *testing.T) {
	for _, way := range ways {
		r := made(t, 2, way[0], way[1])
		long := text(2000)
		if way[0] == cbor {
			long = append(x("79 0600"), make([]byte, 0x600)...)
		}
		offers(t, r, long, long)
		one, _ := r.Take()
		overwrite(one)
		expectTake(t, r, many(way[1]))
	}
}

// R4: what Peek and Take answer may be written over, and longer, and turns nothing.
func TestTakenIsTheCallers(t *testing.T) {
	r := filled(t, 4, 0, 3)
	for n := range 200 {
		first, _ := r.Peek()
		second, _ := r.Peek()
		overwrite(first)
		_ = append(first, 1, 2, 3)
		if !bytes.Equal(second, itemOf(n)) {
			t.Fatalf("two answers of Peek share their bytes: %q", second)
		}
		overwrite(second)
		expectPeek(t, r, itemOf(n))
		third, _ := r.Peek()
		taken, ok := r.Take()
		if !ok || !bytes.Equal(taken, itemOf(n)) {
			t.Fatalf("Take is %q, %v", taken, ok)
		}
		overwrite(taken)
		_ = append(taken, 1, 2, 3)
		if !bytes.Equal(third, itemOf(n)) {
			t.Fatalf("Peek and Take share their bytes: %q", third)
		}
		expectPeek(t, r, itemOf(n+1))
		offers(t, r, numbered(n+3))
		expectCounts(t, r, 3, 1, n+4, len(slices.Concat(itemOf(n+1), itemOf(n+2), itemOf(n+3))))
	}
}

// P21.1 to P21.7: all rows of five acts out of six, at small routes of each way, held against the model.
func TestAllShortRows(t *testing.T) {
	acts := []func(b *both){
		func(b *both) { b.offer([]byte(`1`)) },
		func(b *both) { b.offer([]byte{0x41, 0xFF}) },
		func(b *both) { b.offer(nil) },
		func(b *both) { b.offer(make([]byte, mostBytes+1)) },
		func(b *both) { b.peek() },
		func(b *both) { b.take() },
	}
	rows := 6 * 6 * 6 * 6 * 6
	for _, way := range ways {
		for most := 1; most <= 3; most++ {
			for row := range rows {
				b := newBoth(t, most, way[0], way[1])
				for range 5 {
					acts[row%6](b)
					row /= 6
				}
				b.take()
			}
		}
	}
}

// P21.1 to P21.7, R1, R7: long rows of any calls, right and wrong ones, held against the model.
func TestChanceAgainstModel(t *testing.T) {
	c := chance(2121)
	for row := range 192 {
		b := newBoth(t, 1+row%mostQueue, 1+c.below(2), 1+c.below(2))
		offers := 2 + c.below(7)
		for range 250 {
			switch n := c.below(10); {
			case n < offers:
				b.offer(c.message(b.m.from))
			case n == offers:
				b.peek()
			default:
				b.take()
			}
		}
		for range b.m.most + 1 {
			b.peek()
			b.take()
		}
	}
}

// R7: calls that are refused, anywhere in a row of calls, turn no later answer.
func TestRefusedTurnsNothing(t *testing.T) {
	c := chance(77)
	for row := range 64 {
		b := newBoth(t, 1+row%9, 1+c.below(2), 1+c.below(2))
		for range 60 {
			switch c.below(5) {
			case 0, 1, 2:
				b.offer(c.message(b.m.from))
			default:
				b.take()
			}
			// The model is not asked: it stays as it was.
			want := api.ErrMany
			if len(b.m.waits()) == b.m.most {
				want = api.ErrWait
				expectOffer(t, b.r, []byte(`1`), want)
			}
			expectOffer(t, b.r, make([]byte, mostBytes+1+c.below(100)), want)
			if len(b.m.waits()) == 0 {
				expectNothing(t, b.r)
			}
			b.hold()
			b.peek()
		}
	}
}

// R3: the same calls have the same answers, on whatever route.
func TestSameAnswers(t *testing.T) {
	for seed := range 20 {
		c := chance(seed + 1)
		one, two := made(t, 5, cbor, json), made(t, 5, cbor, json)
		for range 100 {
			m := c.message(cbor)
			if a, b := one.Offer(m), two.Offer(slices.Clone(m)); a != b {
				t.Fatalf("%v and %v", a, b)
			}
			if c.below(3) > 0 {
				continue
			}
			a, ok := one.Take()
			b, is := two.Take()
			if ok != is || !bytes.Equal(a, b) {
				t.Fatalf("%s and %s", told(a), told(b))
			}
		}
	}
}

// P21.4: what is taken, of routes that go on for long, are the items of what Offer took, in order; and all numbers stay right.
func TestLongRow(t *testing.T) {
	r := made(t, 7, json, cbor)
	c := chance(4)
	offered, taken := 0, 0
	for offered < 5000 {
		if c.below(2) == 0 {
			if why := r.Offer([]byte{'"', byte('a' + offered%26), '"'}); why == api.OK {
				offered++
			} else if offered-taken != 7 || why != api.ErrWait {
				t.Fatalf("%d wait: Offer is %v", offered-taken, why)
			}
		} else if offered > taken {
			expectTake(t, r, []byte{2, 0x61, byte('a' + taken%26), 0})
			taken++
		}
		expectCounts(t, r, offered-taken, 7-offered+taken, offered, 4*(offered-taken))
	}
}

// R1: numbers at the ends of what an int has are no formats and no lengths.
func TestFarNumbers(t *testing.T) {
	for _, n := range []int{math.MinInt, math.MaxInt, math.MinInt + 1, math.MaxInt - 1} {
		expectNoRoute(t, n, json, json)
		expectNoRoute(t, n, n, n)
		expectItemError(t, n, n, nil, api.ErrArg)
	}
}
