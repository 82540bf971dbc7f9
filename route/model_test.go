package route_test

import (
	"bytes"
	"encoding/hex"
	"fmt"
	"math"
	"strings"
	"testing"

	"gantline/api"
	"gantline/route"
	"gantline/tran"
)

// The document's bounds and numbers, as numbers of their own.
const (
	json      = 1
	cbor      = 2
	mostBytes = 4096
	mostItem  = 1100
	mostQueue = 64
)

// The records of {ErrMany, 0}, byte by byte.
const (
	manyJson = `{"error":8,"at":0}`
	manyCbor = "\xa2\x65error\x08\x62at\x00"
)

// none is the trailer of no losses.
var none = []byte{0}

// ways are the pairs of formats that a route may have.
var ways = [][2]int{{json, json}, {json, cbor}, {cbor, json}, {cbor, cbor}}

// x are bytes by their digits of base 16, with gaps between.
func x(digits string) []byte {
	b, err := hex.DecodeString(strings.ReplaceAll(digits, " ", ""))
	if err != nil {
		panic(err)
	}
	return b
}

// isFormat says whether a number is a format's.
func isFormat(format int) bool { return format == json || format == cbor }

// short are the bytes of a short number: groups of seven bits, from the lowest on put in front.
func short(n int) []byte {
	b := []byte{byte(n % 128)}
	for n /= 128; n > 0; n /= 128 {
		b = append([]byte{byte(128 + n%128)}, b...)
	}
	return b
}

// item is a message and its trailer in one.
func item(comes, trailer []byte) []byte {
	return append(append(short(len(comes)), comes...), trailer...)
}

// many is the item of the record of {ErrMany, 0}.
func many(to int) []byte {
	if to == json {
		return item([]byte(manyJson), nil)
	}
	return item([]byte(manyCbor), nil)
}

// modelItem is what the document says of Item, by layer 16, by which the chapter tells it.
func modelItem(from, to int, m []byte) ([]byte, api.Errno) {
	if !isFormat(from) || !isFormat(to) {
		return nil, api.ErrArg
	}
	if len(m) > mostBytes {
		return nil, api.ErrMany
	}
	comes, trailer, _ := tran.Turn(from, to, m)
	if b := item(comes, trailer); len(b) <= mostItem {
		return b, api.OK
	}
	return many(to), api.OK
}

// modelOpen is what the document says of Open.
func modelOpen(b []byte) ([]byte, []byte, api.Errno) {
	n := uint64(0)
	for i, at := range b {
		if i == 0 && at == 128 || i == 9 && (at >= 128 || n >= 1<<57) {
			break
		}
		n = n*128 + uint64(at%128)
		if at >= 128 {
			continue
		}
		rest := b[i+1:]
		if n > uint64(len(rest)) {
			break
		}
		return rest[:n], rest[n:], api.OK
	}
	return nil, nil, api.ErrForm
}

// model is the document's route: all items that ever were taken by Offer, and how many of them went.
type model struct {
	most, from, to int
	items          [][]byte
	gone           int
}

func (m *model) waits() [][]byte { return m.items[m.gone:] }

func (m *model) offer(message []byte) api.Errno {
	if len(m.waits()) == m.most {
		return api.ErrWait
	}
	b, why := modelItem(m.from, m.to, message)
	if why == api.OK {
		m.items = append(m.items, b)
	}
	return why
}

func (m *model) peek() ([]byte, bool) {
	if len(m.waits()) == 0 {
		return nil, false
	}
	return m.waits()[0], true
}

func (m *model) take() ([]byte, bool) {
	b, ok := m.peek()
	if ok {
		m.gone++
	}
	return b, ok
}

func (m *model) bytes() int { return len(bytes.Join(m.waits(), nil)) }

// both is a route and its model, which are called alike.
type both struct {
	t    *testing.T
	r    *route.Route
	m    *model
	done []call
}

// call is one that was done: told in words only where one is wrong, since there are many.
type call struct {
	name    string
	message []byte
}

func (c call) String() string { return fmt.Sprintf("%s(%s)", c.name, told(c.message)) }

// told are bytes in words, cut off, if they are long.
func told(b []byte) string {
	if len(b) > 40 {
		return fmt.Sprintf("%q and so on, %d bytes", b[:40], len(b))
	}
	return fmt.Sprintf("%q", b)
}

func newBoth(t *testing.T, most, from, to int) *both {
	t.Helper()
	return &both{t: t, r: made(t, most, from, to), m: &model{most: most, from: from, to: to}}
}

func (b *both) fail(format string, args ...any) {
	b.t.Helper()
	b.t.Fatalf("most %d, from %d to %d, %v: %s", b.m.most, b.m.from, b.m.to, b.done, fmt.Sprintf(format, args...))
}

// hold holds what the route tells of itself against the model, and P21.5.
func (b *both) hold() {
	b.t.Helper()
	waits, offered := len(b.m.waits()), len(b.m.items)
	if got := b.r.Len(); got != waits || got > b.m.most {
		b.fail("Len is %d, not %d", got, waits)
	}
	if got := b.r.Room(); got != b.m.most-waits {
		b.fail("Room is %d, not %d", got, b.m.most-waits)
	}
	if got := b.r.Offered(); got != offered {
		b.fail("Offered is %d, not %d", got, offered)
	}
	if got := b.r.Bytes(); got != b.m.bytes() || got > mostItem*waits {
		b.fail("Bytes is %d, not %d", got, b.m.bytes())
	}
}

func (b *both) offer(message []byte) api.Errno {
	b.t.Helper()
	b.done = append(b.done, call{"Offer", message})
	why, want := b.r.Offer(message), b.m.offer(message)
	if why != want {
		b.fail("%v, not %v", why, want)
	}
	b.hold()
	return why
}

func (b *both) peek() {
	b.t.Helper()
	b.done = append(b.done, call{"Peek", nil})
	got, ok := b.r.Peek()
	b.same(got, ok)
	b.hold()
}

func (b *both) take() {
	b.t.Helper()
	b.done = append(b.done, call{"Take", nil})
	got, ok := b.r.Take()
	b.same(got, ok)
	b.m.take()
	b.hold()
}

// same holds an answer against the first item of the model.
func (b *both) same(got []byte, ok bool) {
	b.t.Helper()
	if want, is := b.m.peek(); ok != is || !bytes.Equal(got, want) {
		b.fail("%s, %v: not %s, %v", told(got), ok, told(want), is)
	}
}

// made is a route that New gave.
func made(t *testing.T, most, from, to int) *route.Route {
	t.Helper()
	r, why := route.New(most, from, to)
	if r == nil || why != api.OK {
		t.Fatalf("New(%d, %d, %d) is %v, %v", most, from, to, r, why)
	}
	return r
}

// filled is a route from Json to Json in which so many texts wait, each told by its number, behind so many that went.
func filled(t *testing.T, most, gone, waits int) *route.Route {
	t.Helper()
	r := made(t, most, json, json)
	for n := range gone {
		offers(t, r, numbered(n))
		expectTake(t, r, itemOf(n))
	}
	for n := gone; n < gone+waits; n++ {
		offers(t, r, numbered(n))
	}
	return r
}

// numbered is a message of Json that tells a number.
func numbered(n int) []byte { return fmt.Appendf(nil, "[%d]", n) }

// itemOf is that message's item.
func itemOf(n int) []byte { return item(numbered(n), none) }

// text is a message of Json: a Text of so many bytes.
func text(n int) []byte { return []byte(`"` + strings.Repeat("a", n) + `"`) }

// offers wants messages to be taken.
func offers(t *testing.T, r *route.Route, messages ...[]byte) {
	t.Helper()
	for _, m := range messages {
		expectOffer(t, r, m, api.OK)
	}
}

func expectOffer(t *testing.T, r *route.Route, m []byte, want api.Errno) {
	t.Helper()
	if why := r.Offer(m); why != want {
		t.Fatalf("Offer(%s) is %v: not %v", told(m), why, want)
	}
}

func expectPeek(t *testing.T, r *route.Route, want []byte) {
	t.Helper()
	if got, ok := r.Peek(); !ok || !bytes.Equal(got, want) {
		t.Fatalf("Peek is %s, %v: not %s", told(got), ok, told(want))
	}
}

func expectTake(t *testing.T, r *route.Route, want []byte) {
	t.Helper()
	if got, ok := r.Take(); !ok || !bytes.Equal(got, want) {
		t.Fatalf("Take is %s, %v: not %s", told(got), ok, told(want))
	}
}

// expectNothing wants that no item waits.
func expectNothing(t *testing.T, r *route.Route) {
	t.Helper()
	if got, ok := r.Peek(); got != nil || ok {
		t.Fatalf("Peek is %s, %v: not nothing", told(got), ok)
	}
	if got, ok := r.Take(); got != nil || ok {
		t.Fatalf("Take is %s, %v: not nothing", told(got), ok)
	}
}

// expectCounts wants how many items wait, how many more may, how many were offered, and how many bytes wait.
func expectCounts(t *testing.T, r *route.Route, waits, room, offered, size int) {
	t.Helper()
	got := [4]int{r.Len(), r.Room(), r.Offered(), r.Bytes()}
	if want := [4]int{waits, room, offered, size}; got != want {
		t.Fatalf("Len, Room, Offered and Bytes are %v: not %v", got, want)
	}
}

// expectItem wants a message's item to be just this, to be opened again, and to be what a route answers.
func expectItem(t *testing.T, from, to int, m, comes, trailer []byte) {
	t.Helper()
	want := item(comes, trailer)
	got, why := route.Item(from, to, m)
	if why != api.OK || !bytes.Equal(got, want) {
		t.Fatalf("Item(%d, %d, %s) is %s, %v: not %s", from, to, told(m), told(got), why, told(want))
	}
	expectOpen(t, got, comes, trailer)
	r := made(t, 1, from, to)
	offers(t, r, m)
	expectCounts(t, r, 1, 0, 1, len(want))
	expectTake(t, r, want)
}

// expectItemError wants that a message has no item.
func expectItemError(t *testing.T, from, to int, m []byte, want api.Errno) {
	t.Helper()
	if got, why := route.Item(from, to, m); len(got) != 0 || why != want {
		t.Fatalf("Item(%d, %d, %s) is %s, %v: not %v", from, to, told(m), told(got), why, want)
	}
}

func expectOpen(t *testing.T, b, comes, trailer []byte) {
	t.Helper()
	got, rest, why := route.Open(b)
	if why != api.OK || !bytes.Equal(got, comes) || !bytes.Equal(rest, trailer) {
		t.Fatalf("Open(%s) is %s, %s, %v: not %s, %s", told(b), told(got), told(rest), why, told(comes), told(trailer))
	}
}

// expectClosed wants that bytes are no item.
func expectClosed(t *testing.T, b []byte) {
	t.Helper()
	if got, rest, why := route.Open(b); len(got) != 0 || len(rest) != 0 || why != api.ErrForm {
		t.Fatalf("Open(%s) is %s, %s, %v: not %v", told(b), told(got), told(rest), why, api.ErrForm)
	}
}

// wrongFormats are numbers that no format has.
func wrongFormats() []int {
	return []int{0, 3, 4, -1, -2, 256 + 1, 256 + 2, 1<<32 + 1, 1<<32 + 2, math.MaxInt, math.MinInt, math.MinInt + 1}
}

// wrongMosts are numbers of items that no route may have.
func wrongMosts() []int {
	return []int{0, -1, -2, -64, 65, 66, 128, 256 + 1, 1<<32 + 1, math.MaxInt, math.MinInt, math.MinInt + 1}
}

// chance is a row of numbers that look like chance, and are the same at each run.
type chance uint64

func (c *chance) next() uint64 {
	*c ^= *c << 13
	*c ^= *c >> 7
	*c ^= *c << 17
	return uint64(*c) * 2685821657736338717
}

func (c *chance) below(n int) int { return int(c.next() >> 1 % uint64(n)) }

// message is one of a format: in its one form, or not, none at all, or too long.
func (c *chance) message(format int) []byte {
	if c.below(20) == 0 {
		return make([]byte, mostBytes+c.below(3))
	}
	m := c.item(3)
	if format == json {
		m = []byte(c.text(3))
	}
	for c.below(8) == 0 && len(m) > 0 {
		m[c.below(len(m))] ^= byte(1 << c.below(8))
		m = m[:len(m)-c.below(2)]
	}
	return m
}

// text is a text of Json.
func (c *chance) text(depth int) string {
	parts := make([]string, c.below(6))
	switch c.below(7) {
	case 0:
		return fmt.Sprintf("%d.%d ", c.below(2000)-1000, c.below(20))
	case 1:
		return `"` + strings.Repeat("b", c.length()) + `"`
	case 2, 3:
		if depth == 0 {
			break
		}
		for i := range parts {
			parts[i] = fmt.Sprintf("\"%d\": %s", i, c.text(depth-1))
		}
		return "{" + strings.Join(parts, ",") + "}"
	case 4, 5:
		if depth == 0 {
			break
		}
		for i := range parts {
			parts[i] = c.text(depth - 1)
		}
		return " [" + strings.Join(parts, " ,") + "]"
	}
	return "null"
}

// length is mostly small, and now and then near to where an item is too long, or its number needs one byte more.
func (c *chance) length() int {
	switch c.below(10) {
	case 0:
		return mostItem - c.below(12)
	case 1:
		return mostItem/2 - c.below(12)
	case 2:
		return 130 - c.below(8)
	case 3:
		return c.below(1200)
	}
	return c.below(20)
}

// item is an item of Cbor, of those that Json tells as they are, and of those that it can't.
func (c *chance) item(depth int) []byte {
	count := c.below(6)
	switch c.below(10) {
	case 0, 1:
		return []byte{byte(c.below(24)) | byte(c.below(2)<<5)}
	case 2:
		n := c.length()
		return append([]byte{0x59, byte(n >> 8), byte(n)}, bytes.Repeat([]byte{0xA5}, n)...)
	case 3:
		n := c.length()
		return append([]byte{0x79, byte(n >> 8), byte(n)}, bytes.Repeat([]byte{'c'}, n)...)
	case 4:
		return append([]byte{0xF9}, byte(c.below(256)), byte(c.below(256)))
	case 5:
		return []byte{0xE0 | byte(c.below(24))}
	case 6:
		return append([]byte{0xD8, 100}, c.item(max(depth-1, 0))...)
	case 7, 8:
		if depth == 0 {
			break
		}
		b := []byte{0x80 | byte(count)}
		for range count {
			b = append(b, c.item(depth-1)...)
		}
		return b
	case 9:
		if depth == 0 {
			break
		}
		b := []byte{0xA0 | byte(count)}
		for i := range count {
			b = append(b, byte(i)|byte(0x20*c.below(2)))
			b = append(b, c.item(depth-1)...)
		}
		return b
	}
	return []byte{0xF6}
}
