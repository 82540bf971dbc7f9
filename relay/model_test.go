package relay_test

import (
	"bytes"
	"encoding/hex"
	"fmt"
	"math"
	"slices"
	"strings"
	"testing"

	"gantline/api"
	"gantline/link"
	"gantline/relay"
	"gantline/route"
)

// The document's bounds and numbers, as numbers of their own.
const (
	json       = 1
	cbor       = 2
	mostWindow = 32
	mostQueue  = 64
	mostRoutes = 16
	mostSent   = 1100
	mostBytes  = 4096
	mostFrame  = 1208
	fairRounds = 400
	up         = 0
	down       = 1
)

// The Kinds of acts, as numbers of their own.
const (
	actSend    = 1
	actPoll    = 2
	actTick    = 3
	actDeliver = 4
	actDrop    = 5
	actTwice   = 6
	actTurn    = 7
	actForge   = 8
	actBreak   = 9
	actReset   = 10
)

// The records of {ErrMany, 0}, byte by byte.
const (
	manyJson = `{"error":8,"at":0}`
	manyCbor = "\xa2\x65error\x08\x62at\x00"
)

// none is the trailer of no losses.
var none = []byte{0}

// ways are the pairs of formats that a route may have.
var ways = [][2]int{{json, json}, {json, cbor}, {cbor, json}, {cbor, cbor}}

// x are bytes by their digits of base 16, with gaps between.
func x(digits string) []byte {
	b, err := hex.DecodeString(strings.ReplaceAll(digits, " ", ""))
	if err != nil {
		panic(err)
	}
	return b
}

// isFormat says whether a number is a format's.
func isFormat(format int) bool { return format == json || format == cbor }

// state is all that a relay tells of one route.
type state struct {
	accepted, delivered, waits int
	held                       [2]int
	way                        [2][2]int
}

func stateOf(r *relay.Relay, n int) state {
	s := state{accepted: r.Accepted(n), delivered: r.Delivered(n), waits: r.Waits(n)}
	for side := range 2 {
		s.held[side] = r.Held(n, side)
		for net := range 2 {
			s.way[side][net] = r.Way(n, side, net)
		}
	}
	return s
}

func (s state) String() string {
	return fmt.Sprintf("Accepted %d, Delivered %d, Waits %d, Held %v, Way %v", s.accepted, s.delivered, s.waits, s.held, s.way)
}

// modelRoute is the document's route: two links of layer 19, and items in a list.
type modelRoute struct {
	from, to int
	tokens   [2]uint64
	links    [2]*link.Link
	items    [][]byte
	sent     [][]byte // all messages that Send took
	polled   int
	over     bool
	last     state // when it ended
}

// model is the document's relay.
type model struct {
	window, queue int
	routes        []*modelRoute
}

func (m *model) add(from, to int, up, down uint64) (int, api.Errno) {
	if !isFormat(from) || !isFormat(to) || up == 0 || down == 0 {
		return 0, api.ErrArg
	}
	twice := up == down
	for _, o := range m.routes {
		twice = twice || slices.Contains(o.tokens[:], up) || slices.Contains(o.tokens[:], down)
	}
	if twice {
		return 0, api.ErrTwice
	}
	if len(m.routes) == mostRoutes {
		return 0, api.ErrBusy
	}
	first, _ := link.New(m.window, up)
	second, _ := link.New(m.window, down)
	m.routes = append(m.routes, &modelRoute{from: from, to: to, tokens: [2]uint64{up, down}, links: [2]*link.Link{first, second}})
	return len(m.routes) - 1, api.OK
}

// why is the error ahead of those of the links.
func (m *model) why(a relay.Act) api.Errno {
	switch {
	case a.Kind < actSend || a.Kind > actReset:
		return api.ErrArg
	case a.Kind == actTick:
		return api.OK
	case a.Route < 0 || a.Route >= len(m.routes):
		return api.ErrNone
	case m.routes[a.Route].over:
		return api.ErrOver
	case a.Kind >= actDeliver && a.Kind <= actBreak && a.Side != up && a.Side != down:
		return api.ErrArg
	}
	return api.OK
}

func (m *model) do(a relay.Act) relay.Answer {
	if why := m.why(a); why != api.OK {
		return relay.Answer{Why: why}
	}
	if a.Kind == actTick {
		m.tick()
		return relay.Answer{}
	}
	o := m.routes[a.Route]
	answer := o.do(a)
	if !o.over {
		o.move(m.queue)
	}
	return answer
}

// tick lets all links tick, and then all routes move on.
func (m *model) tick() {
	for _, o := range m.routes {
		if !o.over {
			o.links[up].Tick()
			o.links[down].Tick()
		}
	}
	for _, o := range m.routes {
		if !o.over {
			o.move(m.queue)
		}
	}
}

func (o *modelRoute) do(a relay.Act) relay.Answer {
	var why api.Errno
	switch a.Kind {
	case actSend:
		if why = o.links[up].Send(a.Load); why == api.OK {
			o.sent = append(o.sent, slices.Clone(a.Load))
		}
	case actPoll:
		return o.poll()
	case actDeliver:
		why = o.links[a.Side].Deliver(a.Net, a.I)
	case actDrop:
		why = o.links[a.Side].Drop(a.Net, a.I)
	case actTwice:
		why = o.links[a.Side].Twice(a.Net, a.I)
	case actTurn:
		why = o.links[a.Side].Turn(a.Net, a.I, a.At, a.By)
	case actForge:
		why = o.links[a.Side].Forge(a.Net, a.Load)
	case actBreak:
		o.links[a.Side].Reconnect()
	case actReset:
		o.last, o.over = o.state(), true
	}
	return relay.Answer{Why: why}
}

// poll answers what comes of the next message, by P22.4: not what the link at side 1 has, but what was sent.
func (o *modelRoute) poll() relay.Answer {
	if _, ok := o.links[down].Poll(); !ok {
		return relay.Answer{}
	}
	load, trailer := comes(o.from, o.to, o.sent[o.polled])
	o.polled++
	return relay.Answer{Has: true, Load: load, Trailer: trailer}
}

// comes is what comes of a message, by layer 21.
func comes(from, to int, m []byte) (load, trailer []byte) {
	item, _ := route.Item(from, to, m)
	load, trailer, _ = route.Open(item)
	return load, trailer
}

// move is how a route moves on.
func (o *modelRoute) move(queue int) {
	for {
		if len(o.items) > 0 && o.links[down].Send(o.items[0]) == api.OK {
			o.items = o.items[1:]
			continue
		}
		if len(o.items) == queue {
			return
		}
		load, ok := o.links[up].Poll()
		if !ok {
			return
		}
		item, _ := route.Item(o.from, o.to, load)
		o.items = append(o.items, item)
	}
}

func (o *modelRoute) state() state {
	if o.over {
		return o.last
	}
	s := state{accepted: len(o.sent), delivered: o.polled, waits: len(o.items)}
	for side, l := range o.links {
		s.held[side] = l.Held()
		s.way[side] = [2]int{l.Way(0), l.Way(1)}
	}
	return s
}

// both is a relay and its model, which are called alike.
type both struct {
	t    *testing.T
	r    *relay.Relay
	m    *model
	done []relay.Act
}

func newBoth(t *testing.T, window, queue int) *both {
	t.Helper()
	return &both{t: t, r: made(t, window, queue), m: &model{window: window, queue: queue}}
}

// oneRoute is a relay with one route, and its model.
func oneRoute(t *testing.T, window, queue, from, to int) *both {
	t.Helper()
	b := newBoth(t, window, queue)
	b.add(from, to, 5, 6)
	return b
}

func (b *both) fail(format string, args ...any) {
	b.t.Helper()
	b.t.Fatalf("window %d, queue %d, %s: %s", b.m.window, b.m.queue, row(b.done), fmt.Sprintf(format, args...))
}

// names are those of the Kinds of acts.
var names = []string{"none", "Send", "Poll", "Tick", "Deliver", "Drop", "Twice", "Turn", "Forge", "Break", "Reset"}

// row are acts in words.
func row(list []relay.Act) string {
	parts := make([]string, len(list))
	for i, a := range list {
		parts[i] = inWords(a)
	}
	return strings.Join(parts, ", ")
}

func inWords(a relay.Act) string {
	name := fmt.Sprint(a.Kind)
	if a.Kind > 0 && a.Kind < len(names) {
		name = names[a.Kind]
	}
	return fmt.Sprintf("%s(route %d, side %d, net %d, i %d, at %d, by %x, %s)", name, a.Route, a.Side, a.Net, a.I, a.At, a.By, told(a.Load))
}

// told are bytes in words, cut off, if they are long.
func told(b []byte) string {
	if len(b) > 40 {
		return fmt.Sprintf("%q and so on, %d bytes", b[:40], len(b))
	}
	return fmt.Sprintf("%q", b)
}

func (b *both) add(from, to int, up, down uint64) api.Errno {
	b.t.Helper()
	n, why := b.r.Add(from, to, up, down)
	want, wantWhy := b.m.add(from, to, up, down)
	if n != want || why != wantWhy {
		b.fail("Add(%d, %d, %d, %d) is %d, %v: not %d, %v", from, to, up, down, n, why, want, wantWhy)
	}
	b.hold()
	return why
}

func (b *both) do(a relay.Act) relay.Answer {
	b.t.Helper()
	b.done = append(b.done, a)
	got, want := b.r.Do(a), b.m.do(a)
	if !sameAnswer(got, want) {
		b.fail("%s, not %s", answered(got), answered(want))
	}
	b.hold()
	return got
}

func sameAnswer(a, b relay.Answer) bool {
	return a.Why == b.Why && a.Has == b.Has && bytes.Equal(a.Load, b.Load) && bytes.Equal(a.Trailer, b.Trailer)
}

func answered(a relay.Answer) string {
	return fmt.Sprintf("{%v, %v, %s, %s}", a.Why, a.Has, told(a.Load), told(a.Trailer))
}

// hold holds what the relay tells of each route against the model, and P22.6.
func (b *both) hold() {
	b.t.Helper()
	for n, o := range b.m.routes {
		got, want := stateOf(b.r, n), o.state()
		if got != want {
			b.fail("route %d: %v: not %v", n, got, want)
		}
		if got.waits > b.m.queue || max(got.held[up], got.held[down]) > b.m.window || got.accepted-got.delivered > b.m.queue+2*b.m.window {
			b.fail("route %d: %v: too many", n, got)
		}
	}
	for _, n := range []int{-1, len(b.m.routes)} {
		if got := stateOf(b.r, n); got != (state{}) {
			b.fail("route %d: %v", n, got)
		}
	}
}

// fairRound is one of P22.5, of all routes that have not ended.
func (b *both) fairRound() {
	b.t.Helper()
	b.do(relay.Act{Kind: actTick})
	for n, o := range b.m.routes {
		if o.over {
			continue
		}
		for place := range 4 {
			for range b.r.Way(n, place/2, place%2) {
				b.do(relay.Act{Kind: actDeliver, Route: n, Side: place / 2, Net: place % 2})
			}
		}
		for b.do(relay.Act{Kind: actPoll, Route: n}).Has {
		}
	}
}

// fair holds P22.5: so many fair rounds, and all that was taken is answered. The answer is how many of them were needed.
func (b *both) fair() int {
	b.t.Helper()
	needed := 0
	for i := range fairRounds {
		if b.open() {
			needed = i + 1
		}
		// What was done is told of in the last round alone.
		b.done = b.done[:0]
		b.fairRound()
	}
	if b.open() {
		b.fail("behind %d fair rounds not all is answered", fairRounds)
	}
	return needed
}

// open says whether a route that has not ended still owes a message.
func (b *both) open() bool {
	return slices.ContainsFunc(b.m.routes, func(o *modelRoute) bool { return !o.over && o.polled < len(o.sent) })
}

// made is a relay that New gave.
func made(t *testing.T, window, queue int) *relay.Relay {
	t.Helper()
	r, why := relay.New(window, queue)
	if r == nil || why != api.OK {
		t.Fatalf("New(%d, %d) is %v, %v", window, queue, r, why)
	}
	return r
}

// withRoute is a relay with one route, whose tokens are 5 and 6.
func withRoute(t *testing.T, window, queue, from, to int) *relay.Relay {
	t.Helper()
	r := made(t, window, queue)
	expectAdd(t, r, from, to, 5, 6, 0, api.OK)
	return r
}

func expectAdd(t *testing.T, r *relay.Relay, from, to int, up, down uint64, want int, wantWhy api.Errno) {
	t.Helper()
	if n, why := r.Add(from, to, up, down); n != want || why != wantWhy {
		t.Fatalf("Add(%d, %d, %d, %d) is %d, %v: not %d, %v", from, to, up, down, n, why, want, wantWhy)
	}
}

// expectWhy wants an act to answer just an error, or nothing at all.
func expectWhy(t *testing.T, r *relay.Relay, a relay.Act, want api.Errno) {
	t.Helper()
	if got := r.Do(a); got.Why != want || got.Has || got.Load != nil || got.Trailer != nil {
		t.Fatalf("%s is %s: not %v", inWords(a), answered(got), want)
	}
}

// doAll wants acts to be done without an error, and to answer nothing.
func doAll(t *testing.T, r *relay.Relay, list ...relay.Act) {
	t.Helper()
	for _, a := range list {
		expectWhy(t, r, a, api.OK)
	}
}

func expectState(t *testing.T, r *relay.Relay, n int, want state) {
	t.Helper()
	if got := stateOf(r, n); got != want {
		t.Fatalf("route %d: %v: not %v", n, got, want)
	}
}

// expectPoll wants a message and its trailer to be answered.
func expectPoll(t *testing.T, r *relay.Relay, n int, load, trailer []byte) {
	t.Helper()
	want := relay.Answer{Has: true, Load: load, Trailer: trailer}
	if got := r.Do(relay.Act{Kind: actPoll, Route: n}); !sameAnswer(got, want) {
		t.Fatalf("Poll is %s: not %s", answered(got), answered(want))
	}
}

// expectNothing wants that Poll has nothing.
func expectNothing(t *testing.T, r *relay.Relay, n int) {
	t.Helper()
	expectWhy(t, r, relay.Act{Kind: actPoll, Route: n}, api.OK)
}

// sends wants messages to be taken.
func sends(t *testing.T, r *relay.Relay, n int, messages ...[]byte) {
	t.Helper()
	for _, m := range messages {
		expectWhy(t, r, relay.Act{Kind: actSend, Route: n, Load: m}, api.OK)
	}
}

// tick lets time go on.
func tick(t *testing.T, r *relay.Relay) {
	t.Helper()
	expectWhy(t, r, relay.Act{Kind: actTick}, api.OK)
}

// deliver wants all that is on its way in a net to come, first come first.
func deliver(t *testing.T, r *relay.Relay, n, side, net int) {
	t.Helper()
	for range r.Way(n, side, net) {
		expectWhy(t, r, relay.Act{Kind: actDeliver, Route: n, Side: side, Net: net}, api.OK)
	}
}

// rounds are ticks, behind each of which all that is on its way on these sides comes, whatever becomes of it.
func rounds(t *testing.T, r *relay.Relay, n, count int, sides ...int) {
	t.Helper()
	for range count {
		tick(t, r)
		for _, side := range sides {
			for net := range 2 {
				for range r.Way(n, side, net) {
					r.Do(relay.Act{Kind: actDeliver, Route: n, Side: side, Net: net})
				}
			}
		}
	}
}

// numbered is a message of Json that tells a number.
func numbered(n int) []byte { return fmt.Appendf(nil, "[%d]", n) }

// text is a message of Json: a Text of so many bytes.
func text(n int) []byte { return []byte(`"` + strings.Repeat("a", n) + `"`) }

// wrongFormats are numbers that no format has.
func wrongFormats() []int {
	return []int{0, 3, 4, -1, -2, 256 + 1, 256 + 2, 1<<32 + 1, 1<<32 + 2, math.MaxInt, math.MinInt}
}

// wrongKinds are numbers that no Kind of act has.
func wrongKinds() []int {
	return []int{0, 11, 12, -1, -3, -10, 256 + 1, 256 + 3, 1<<32 + 3, math.MaxInt, math.MinInt}
}

// wrongSides are numbers that no side has, and no net either.
func wrongSides() []int {
	return []int{-1, 2, 3, -2, 256, 257, 1 << 32, 1<<32 + 1, math.MaxInt, math.MinInt}
}

// chance is a row of numbers that look like chance, and are the same at each run.
type chance uint64

func (c *chance) next() uint64 {
	*c ^= *c << 13
	*c ^= *c >> 7
	*c ^= *c << 17
	return uint64(*c) * 2685821657736338717
}

func (c *chance) below(n int) int { return int(c.next() >> 1 % uint64(n)) }

// of is one of several numbers.
func (c *chance) of(list ...int) int { return list[c.below(len(list))] }

// bytes are so many of any.
func (c *chance) bytes(n int) []byte {
	b := make([]byte, n)
	for i := range b {
		b[i] = byte(c.next())
	}
	return b
}

// message is one of a format, short: in its one form or not, with losses or without, none at all, or one whose item is too long; now and then one that a link refuses.
func (c *chance) message(format int) []byte {
	jsons := []string{`[1]`, ` {"a": [1.50, null]}`, `-7e3`, `"\u00e9"`, `[`, ``, `{"a":1,"a":2}`, `[1]]`, "\"\xff\"", `9e999`}
	cbors := []string{"8101", "a10102", "41ff", "5f41ffff", "d86400", "f93c00", "e0", "", "81", "811c", "61ff", "0000", "c48220 1864", "a2616101616102"}
	switch c.below(20) {
	case 0:
		return c.bytes(c.of(mostSent-1, mostSent, mostSent+1, mostBytes, mostBytes+1))
	case 1:
		if format == json {
			return text(mostSent - c.below(6))
		}
		n := mostSent - 3 - c.below(4)
		return append([]byte{0x79, byte(n >> 8), byte(n)}, bytes.Repeat([]byte{'c'}, n)...)
	case 2, 3, 4, 5, 6, 7, 8, 9:
		if format == json {
			return numbered(c.below(100000))
		}
		return []byte{0x82, 0x18, byte(24 + c.below(200)), byte(c.below(24))}
	}
	if format == json {
		return []byte(jsons[c.below(len(jsons))])
	}
	return x(cbors[c.below(len(cbors))])
}

// act is some act at a relay: mostly one that may be done. Bad is how many of 100 do harm to a datagram.
func (c *chance) act(b *both, bad int) relay.Act {
	a := relay.Act{Route: c.below(len(b.m.routes) + 1), Side: c.below(2), Net: c.below(2)}
	if c.below(60) == 0 {
		a.Route = c.of(-1, len(b.m.routes), mostRoutes, math.MinInt, math.MaxInt)
	}
	// The last route is at hand twice as often as others.
	if a.Route == len(b.m.routes) && c.below(10) > 0 {
		a.Route--
	}
	if c.below(100) < bad {
		c.harm(b, &a)
		return a
	}
	switch c.below(12) {
	case 0, 1, 2:
		a.Kind, a.Load = actSend, c.message(b.formatOf(a.Route))
	case 3:
		a.Kind = actTick
	case 4, 5:
		a.Kind = actPoll
	default:
		a.Kind, a.Net = actDeliver, c.below(3)/2
		a.I = c.place(b.r.Way(a.Route, a.Side, a.Net))
	}
	return a
}

// harm makes an act one that does harm to what is on its way.
func (c *chance) harm(b *both, a *relay.Act) {
	a.I = c.place(b.r.Way(a.Route, a.Side, a.Net))
	switch c.below(12) {
	case 0, 1, 2, 3:
		a.Kind = actDrop
	case 4, 5:
		a.Kind = actTwice
	case 6, 7:
		a.Kind, a.At, a.By = actTurn, c.of(-1, 0, 7, 2000, math.MinInt, math.MaxInt), uint32(c.next())<<c.below(33)
	case 8, 9:
		a.Kind, a.Load = actForge, c.forged(b)
	case 10:
		a.Kind = c.of(actBreak, actBreak, wrongKinds()[c.below(len(wrongKinds()))])
	default:
		a.Kind = c.of(actDeliver, actDrop, actTwice, actTurn, actForge, actBreak)
		a.Side = c.of(0, 1, 2, -1, math.MaxInt, math.MinInt)
		a.Net = c.of(0, 1, 2, -1, math.MaxInt, math.MinInt)
	}
}

// place is an index among so many: mostly of one that is there.
func (c *chance) place(count int) int {
	if c.below(20) == 0 {
		return c.of(-1, count, count+1, 256, math.MinInt, math.MaxInt)
	}
	return c.below(count + 1)
}

// formatOf is the format of a route's producer.
func (b *both) formatOf(n int) int {
	if n < 0 || n >= len(b.m.routes) {
		return json
	}
	return b.m.routes[n].from
}

// forged are bytes that somebody may put on their way: datagrams of any token, also of those of the relay's links, broken ones, and anything.
func (c *chance) forged(b *both) []byte {
	if c.below(5) == 0 {
		return c.bytes(c.of(0, 1, 40, mostFrame, mostFrame+1))
	}
	m := api.Msg{Kind: 1 + c.below(7), Token: uint64(c.below(40)), Epoch: 1 + c.below(3), Load: c.message(json)}
	m.Seq, m.Ack, m.Credit, m.Bits = c.below(20), c.below(20), c.below(40), c.next()>>c.below(64)
	told, _ := link.Pack(m)
	if c.below(4) == 0 && len(told) > 0 {
		told[c.below(len(told))] ^= byte(1 + c.below(255))
	}
	return told
}
