package relay_test

import (
	"bytes"
	"math"
	"slices"
	"testing"

	"gantline/api"
	"gantline/frame"
	"gantline/link"
	"gantline/relay"
)

// The document's example, with what a relay tells of itself behind each act.
func TestExample(t *testing.T) {
	r := made(t, 4, 4)
	expectAdd(t, r, json, cbor, 5, 6, 0, api.OK)
	expectState(t, r, 0, state{})
	sends(t, r, 0, []byte(`[1]`))
	expectState(t, r, 0, state{accepted: 1})
	tick(t, r)
	expectState(t, r, 0, state{accepted: 1, way: [2][2]int{{1, 1}, {0, 1}}})
	doAll(t, r, relay.Act{Kind: actDeliver})
	expectState(t, r, 0, state{accepted: 1, way: [2][2]int{{0, 1}, {0, 1}}})
	tick(t, r)
	// The load is told again, since no ack came.
	expectState(t, r, 0, state{accepted: 1, way: [2][2]int{{1, 2}, {1, 2}}})
	expectNothing(t, r, 0)
	doAll(t, r, relay.Act{Kind: actDeliver, Side: 1})
	expectState(t, r, 0, state{accepted: 1, held: [2]int{0, 1}, way: [2][2]int{{1, 2}, {0, 2}}})
	expectPoll(t, r, 0, x("81 01"), none)
	expectState(t, r, 0, state{accepted: 1, delivered: 1, way: [2][2]int{{1, 2}, {0, 2}}})
	expectNothing(t, r, 0)
}

// The names of the Kinds of acts have the document's numbers.
func TestNumbersOfKinds(t *testing.T) {
	got := []int{relay.Send, relay.Poll, relay.Tick, relay.Deliver, relay.Drop, relay.Twice, relay.Turn, relay.Forge, relay.Break, relay.Reset}
	if !slices.Equal(got, []int{1, 2, 3, 4, 5, 6, 7, 8, 9, 10}) {
		t.Fatal(got)
	}
}

// P22.1: each relay that may be has no routes.
func TestNew(t *testing.T) {
	for window := 1; window <= mostWindow; window++ {
		for queue := 1; queue <= mostQueue; queue++ {
			r := made(t, window, queue)
			expectState(t, r, 0, state{})
			expectWhy(t, r, relay.Act{Kind: actSend}, api.ErrNone)
			tick(t, r)
		}
	}
}

// P22.1: relays that may not be.
func TestNewWrong(t *testing.T) {
	wrongWindows := []int{0, -1, -32, 33, 34, 64, 256 + 1, 1<<32 + 1, math.MaxInt, math.MinInt}
	wrongQueues := []int{0, -1, -64, 65, 66, 128, 256 + 1, 1<<32 + 1, math.MaxInt, math.MinInt}
	expectNone := func(window, queue int) {
		t.Helper()
		if r, why := relay.New(window, queue); r != nil || why != api.ErrArg {
			t.Fatalf("New(%d, %d) is %v, %v", window, queue, r, why)
		}
	}
	for _, window := range wrongWindows {
		for _, queue := range append([]int{1, 2, 32, 64}, wrongQueues...) {
			expectNone(window, queue)
		}
	}
	for _, queue := range wrongQueues {
		for _, window := range []int{1, 2, 32} {
			expectNone(window, queue)
		}
	}
}

// P22.1: sixteen routes, by their numbers, and no more.
func TestAdd(t *testing.T) {
	for _, way := range ways {
		r := made(t, 1, 1)
		for n := range mostRoutes {
			expectAdd(t, r, way[0], way[1], uint64(2*n+1), math.MaxUint64-uint64(n), n, api.OK)
			expectState(t, r, n, state{})
			expectState(t, r, n+1, state{})
			expectWhy(t, r, relay.Act{Kind: actPoll, Route: n}, api.OK)
			expectWhy(t, r, relay.Act{Kind: actPoll, Route: n + 1}, api.ErrNone)
		}
		for range 3 {
			expectAdd(t, r, way[0], way[1], 100, 101, 0, api.ErrBusy)
		}
		expectWhy(t, r, relay.Act{Kind: actPoll, Route: mostRoutes}, api.ErrNone)
	}
}

// P22.1: formats that are none, and tokens of 0, ahead of all else: of tokens that are the same, or there already, and of sixteen routes.
func TestAddWrong(t *testing.T) {
	r := made(t, 1, 1)
	for n := range mostRoutes + 1 {
		for _, wrong := range wrongFormats() {
			for _, other := range append(wrongFormats(), json, cbor) {
				for _, tokens := range [][2]uint64{{90, 91}, {90, 90}, {0, 0}, {0, 90}, {90, 0}, {1, 2}, {2, 1}} {
					expectAdd(t, r, wrong, other, tokens[0], tokens[1], 0, api.ErrArg)
					expectAdd(t, r, other, wrong, tokens[0], tokens[1], 0, api.ErrArg)
				}
			}
		}
		for _, tokens := range [][2]uint64{{0, 0}, {0, 90}, {90, 0}, {0, 1}, {1, 0}, {0, math.MaxUint64}, {math.MaxUint64, 0}} {
			for _, way := range ways {
				expectAdd(t, r, way[0], way[1], tokens[0], tokens[1], 0, api.ErrArg)
			}
		}
		if n < mostRoutes {
			expectAdd(t, r, json, json, uint64(2*n+1), uint64(2*n+2), n, api.OK)
		}
	}
}

// P22.1: tokens that are the same, or those of any route that there is, on either side, ahead of ErrBusy.
func TestAddTwice(t *testing.T) {
	r := made(t, 1, 1)
	for n := range mostRoutes + 1 {
		for _, way := range ways {
			for _, token := range []uint64{1, 90, 1 << 32, math.MaxUint64} {
				expectAdd(t, r, way[0], way[1], token, token, 0, api.ErrTwice)
			}
			for token := uint64(1); token <= uint64(2*n); token++ {
				expectAdd(t, r, way[0], way[1], token, 90, 0, api.ErrTwice)
				expectAdd(t, r, way[0], way[1], 90, token, 0, api.ErrTwice)
				expectAdd(t, r, way[0], way[1], token, token%uint64(2*n)+1, 0, api.ErrTwice)
			}
		}
		if n < mostRoutes {
			expectAdd(t, r, json, json, uint64(2*n+1), uint64(2*n+2), n, api.OK)
		}
	}
	expectAdd(t, r, json, json, 90, 91, 0, api.ErrBusy)
}

// P22.1, R7: an Add that is refused takes no number, no room and no token.
func TestRefusedAddTakesNothing(t *testing.T) {
	r := made(t, 1, 1)
	for n := range mostRoutes {
		first, second := uint64(2*n+1), uint64(2*n+2)
		expectAdd(t, r, json, 3, first, second, 0, api.ErrArg)
		expectAdd(t, r, json, json, first, 0, 0, api.ErrArg)
		expectAdd(t, r, json, json, first, first, 0, api.ErrTwice)
		if n > 0 {
			expectAdd(t, r, json, json, first, 1, 0, api.ErrTwice)
			expectAdd(t, r, json, json, 2, second, 0, api.ErrTwice)
		}
		expectState(t, r, n, state{})
		expectWhy(t, r, relay.Act{Kind: actPoll, Route: n}, api.ErrNone)
		expectAdd(t, r, json, json, second, first, n, api.OK)
	}
}

// P22.1: a route that has ended is still there: its number, its room and its tokens stay taken.
func TestAddBehindReset(t *testing.T) {
	r := made(t, 1, 1)
	for n := range mostRoutes {
		first, second := uint64(2*n+1), uint64(2*n+2)
		expectAdd(t, r, json, json, first, second, n, api.OK)
		doAll(t, r, relay.Act{Kind: actReset, Route: n})
		expectAdd(t, r, json, json, first, 90, 0, api.ErrTwice)
		expectAdd(t, r, json, json, 90, second, 0, api.ErrTwice)
		expectAdd(t, r, json, json, second, first, 0, api.ErrTwice)
	}
	expectAdd(t, r, json, json, 90, 91, 0, api.ErrBusy)
}

// P22.1: the first token is that of the link at side 0, the second that of the link at side 1: a link refuses forged datagrams of its own.
func TestTokens(t *testing.T) {
	r := made(t, 2, 2)
	tokens := [][2]uint64{{5, 6}, {math.MaxUint64, 7}, {1 << 40, 1}}
	for n, two := range tokens {
		expectAdd(t, r, json, cbor, two[0], two[1], n, api.OK)
	}
	for n, two := range tokens {
		for side, own := range two {
			for _, all := range tokens {
				for _, token := range all {
					want := api.OK
					if token == own {
						want = api.ErrArg
					}
					b, _ := link.Pack(api.Msg{Kind: 1, Token: token, Epoch: 1, Seq: 1})
					expectWhy(t, r, relay.Act{Kind: actForge, Route: n, Side: side, Load: b}, want)
				}
			}
			for range r.Way(n, side, 0) {
				expectWhy(t, r, relay.Act{Kind: actDeliver, Route: n, Side: side}, api.ErrKind)
			}
		}
		expectState(t, r, n, state{})
	}
}

// P22.2: a Kind that is none, ahead of all else.
func TestWrongKinds(t *testing.T) {
	r := withRoute(t, 1, 1, json, json)
	expectAdd(t, r, json, json, 7, 8, 1, api.OK)
	sends(t, r, 0, []byte(`1`))
	doAll(t, r, relay.Act{Kind: actReset, Route: 1})
	for _, kind := range wrongKinds() {
		for _, n := range []int{0, 1, 2, -1, math.MaxInt, math.MinInt} {
			for _, side := range append(wrongSides(), 0, 1) {
				expectWhy(t, r, relay.Act{Kind: kind, Route: n, Side: side, Load: []byte(`2`)}, api.ErrArg)
				expectState(t, r, 0, state{accepted: 1})
			}
		}
	}
	expectWhy(t, made(t, 1, 1), relay.Act{Kind: 11}, api.ErrArg)
}

// P22.2: routes that there are not, ahead of a side that is none; a Tick asks for no route.
func TestWrongRoutes(t *testing.T) {
	r := made(t, 1, 1)
	for count := range mostRoutes + 1 {
		for _, n := range []int{-1, -2, count, count + 1, mostRoutes, 256, 1 << 32, math.MaxInt, math.MinInt} {
			for kind := actSend; kind <= actReset; kind++ {
				want := api.ErrNone
				if kind == actTick {
					want = api.OK
				}
				for _, side := range []int{0, 1, 2, -1} {
					expectWhy(t, r, relay.Act{Kind: kind, Route: n, Side: side, Load: []byte(`1`)}, want)
				}
			}
			expectState(t, r, n, state{})
		}
		if count < mostRoutes {
			expectAdd(t, r, json, json, uint64(2*count+1), uint64(2*count+2), count, api.OK)
		}
	}
}

// P22.2: sides that are none, of Deliver to Break, ahead of what the link says; the other Kinds ask for no side.
func TestWrongSides(t *testing.T) {
	r := withRoute(t, 1, 1, json, json)
	sends(t, r, 0, []byte(`1`))
	tick(t, r)
	want := state{accepted: 1, way: [2][2]int{{1, 1}, {0, 1}}}
	for _, side := range wrongSides() {
		for kind := actDeliver; kind <= actBreak; kind++ {
			for _, net := range []int{0, 1, 2, -1} {
				for _, i := range []int{0, 1, -1} {
					a := relay.Act{Kind: kind, Side: side, Net: net, I: i, By: 1, Load: make([]byte, mostFrame+i)}
					expectWhy(t, r, a, api.ErrArg)
					expectState(t, r, 0, want)
				}
			}
		}
		doAll(t, r, relay.Act{Kind: actPoll, Side: side})
		expectWhy(t, r, relay.Act{Kind: actSend, Side: side, Load: []byte(`2`)}, api.ErrWait)
		expectState(t, r, 0, want)
	}
	for n, side := range wrongSides() {
		r := withRoute(t, 1, 1, json, json)
		doAll(t, r, relay.Act{Kind: actSend, Side: side}, relay.Act{Kind: actTick, Side: side, Route: n}, relay.Act{Kind: actReset, Side: side})
		expectState(t, r, 0, want)
		expectWhy(t, r, relay.Act{Kind: actPoll}, api.ErrOver)
	}
}

// P22.2: what the link's Send says, of each route and any Side: ErrMany of a load of more than 1100 bytes, also where there is no room.
func TestSendErrors(t *testing.T) {
	for _, way := range ways {
		for _, window := range []int{1, 2, mostWindow} {
			r := withRoute(t, window, 1, way[0], way[1])
			for n := range window {
				for _, size := range []int{mostSent + 1, mostBytes, mostBytes + 1, 1 << 16} {
					expectWhy(t, r, relay.Act{Kind: actSend, Load: make([]byte, size)}, api.ErrMany)
				}
				expectState(t, r, 0, state{accepted: n})
				sends(t, r, 0, make([]byte, mostSent))
				expectState(t, r, 0, state{accepted: n + 1})
			}
			for _, size := range []int{0, 1, mostSent} {
				expectWhy(t, r, relay.Act{Kind: actSend, Load: make([]byte, size)}, api.ErrWait)
			}
			expectWhy(t, r, relay.Act{Kind: actSend, Load: make([]byte, mostSent+1)}, api.ErrMany)
			expectState(t, r, 0, state{accepted: window})
		}
	}
}

// P22.2: what the links say of nets and datagrams that there are not, on both sides; nothing turns.
func TestWrongPlaces(t *testing.T) {
	r := withRoute(t, 2, 2, json, json)
	sends(t, r, 0, []byte(`1`))
	rounds(t, r, 0, 1, up)
	sends(t, r, 0, []byte(`2`))
	tick(t, r)
	want := state{accepted: 2, way: [2][2]int{{2, 1}, {1, 2}}}
	expectState(t, r, 0, want)
	for kind := actDeliver; kind <= actTurn; kind++ {
		for side := range 2 {
			for _, net := range wrongSides() {
				for _, i := range []int{0, 1, -1, 5} {
					expectWhy(t, r, relay.Act{Kind: kind, Side: side, Net: net, I: i, By: 1}, api.ErrArg)
				}
			}
			for net := range 2 {
				for _, i := range []int{-1, want.way[side][net], want.way[side][net] + 1, 256, math.MaxInt, math.MinInt} {
					expectWhy(t, r, relay.Act{Kind: kind, Side: side, Net: net, I: i, By: 1}, api.ErrNone)
				}
			}
		}
	}
	for side := range 2 {
		for _, net := range wrongSides() {
			expectWhy(t, r, relay.Act{Kind: actForge, Side: side, Net: net}, api.ErrArg)
		}
		for net := range 2 {
			expectWhy(t, r, relay.Act{Kind: actForge, Side: side, Net: net, Load: make([]byte, mostFrame+1)}, api.ErrMany)
		}
	}
	expectState(t, r, 0, want)
}

// P22.2: Drop and Twice are of the side, the net and the datagram that they name.
func TestDropAndTwice(t *testing.T) {
	for side := range 2 {
		for net := range 2 {
			r := withRoute(t, 2, 2, json, json)
			rounds(t, r, 0, 3)
			var want state
			want.way = [2][2]int{{0, 3}, {0, 3}}
			expectState(t, r, 0, want)
			if net == 0 {
				doAll(t, r, relay.Act{Kind: actForge, Side: side, Load: []byte("any")})
				want.way[side][0]++
			}
			doAll(t, r, relay.Act{Kind: actTwice, Side: side, Net: net})
			want.way[side][net]++
			expectState(t, r, 0, want)
			doAll(t, r, relay.Act{Kind: actDrop, Side: side, Net: net, I: 1})
			want.way[side][net]--
			expectState(t, r, 0, want)
		}
	}
}

// P22.2: of two loads on their way the one that Drop and Twice name is lost, and comes twice; Deliver takes the one that it names.
func TestWhichDatagram(t *testing.T) {
	two := func() *relay.Relay {
		r := withRoute(t, 2, 2, json, json)
		sends(t, r, 0, numbered(1), numbered(2))
		tick(t, r)
		return r
	}
	for i, held := range []int{0, 1} {
		// The second load alone waits for the first one; the first alone moves on.
		r := two()
		doAll(t, r, relay.Act{Kind: actDeliver, I: i})
		expectState(t, r, 0, state{accepted: 2, held: [2]int{held, 0}, way: [2][2]int{{1, 1}, {0, 1}}})
		r = two()
		doAll(t, r, relay.Act{Kind: actDrop, I: 1 - i}, relay.Act{Kind: actDeliver})
		expectState(t, r, 0, state{accepted: 2, held: [2]int{held, 0}, way: [2][2]int{{0, 1}, {0, 1}}})
		r = two()
		doAll(t, r, relay.Act{Kind: actTwice, I: i}, relay.Act{Kind: actDeliver, I: 2})
		expectState(t, r, 0, state{accepted: 2, held: [2]int{held, 0}, way: [2][2]int{{2, 1}, {0, 1}}})
		expectWhy(t, r, relay.Act{Kind: actDeliver, I: i}, api.ErrOld)
		r = two()
		doAll(t, r, relay.Act{Kind: actTurn, I: i, At: 9, By: 1})
		expectWhy(t, r, relay.Act{Kind: actDeliver, I: i}, api.ErrSum)
		doAll(t, r, relay.Act{Kind: actDeliver})
		expectState(t, r, 0, state{accepted: 2, held: [2]int{1 - held, 0}, way: [2][2]int{{0, 1}, {0, 1}}})
	}
}

// P22.2: what a datagram that was turned, forged, or told in an earlier epoch becomes, on each side and in each net.
func TestWhatDeliverSays(t *testing.T) {
	for side := range 2 {
		for net := range 2 {
			at := relay.Act{Kind: actDeliver, Side: side, Net: net}
			act := func(kind int, load []byte, by uint32) relay.Act {
				return relay.Act{Kind: kind, Side: side, Net: net, Load: load, By: by}
			}
			r := withRoute(t, 3, 3, json, json)
			sends(t, r, 0, []byte(`1`))
			rounds(t, r, 0, 1, up)
			sends(t, r, 0, []byte(`2`))
			tick(t, r)
			for r.Way(0, side, net) > 1 {
				doAll(t, r, act(actDrop, nil, 0))
			}
			doAll(t, r, act(actTwice, nil, 0), act(actTwice, nil, 0), act(actTwice, nil, 0))
			doAll(t, r, act(actTurn, nil, 0), act(actTurn, nil, 1))
			expectWhy(t, r, act(actTurn, nil, 1), api.ErrState)
			expectWhy(t, r, act(actTurn, nil, 0), api.ErrState)
			expectWhy(t, r, at, api.ErrSum)
			doAll(t, r, at)
			other, _ := link.Pack(api.Msg{Kind: 1 + net, Token: 99, Epoch: 1, Seq: 2})
			doAll(t, r, act(actBreak, nil, 0), act(actForge, other, 0), act(actForge, []byte("any"), 0), act(actForge, nil, 0))
			formless, _ := frame.Encode([]byte{0})
			doAll(t, r, act(actForge, formless, 0))
			for _, want := range []api.Errno{api.ErrOld, api.ErrOld, api.ErrKind, api.ErrSum, api.ErrSum, api.ErrForm, api.ErrNone} {
				expectWhy(t, r, at, want)
			}
		}
	}
}

// P22.2: a Break is of the side that it names: datagrams of that link alone are old behind it; what was not done is told anew at the next Tick.
func TestBreak(t *testing.T) {
	for side := range 2 {
		r := withRoute(t, 2, 2, json, cbor)
		sends(t, r, 0, []byte(`[1]`))
		rounds(t, r, 0, 1, up)
		sends(t, r, 0, []byte(`[2]`))
		tick(t, r)
		for r.Way(0, 1, 1) > 1 {
			doAll(t, r, relay.Act{Kind: actDrop, Side: 1, Net: 1})
		}
		doAll(t, r, relay.Act{Kind: actDrop})
		expectState(t, r, 0, state{accepted: 2, way: [2][2]int{{1, 1}, {1, 1}}})
		doAll(t, r, relay.Act{Kind: actBreak, Side: side})
		expectState(t, r, 0, state{accepted: 2, way: [2][2]int{{1, 1}, {1, 1}}})
		for net := range 2 {
			expectWhy(t, r, relay.Act{Kind: actDeliver, Side: side, Net: net}, api.ErrOld)
		}
		deliver(t, r, 0, 1-side, 0)
		deliver(t, r, 0, 1-side, 1)
		tick(t, r)
		// At side 0 it is the second load alone, since the first one came; at side 1 it is the first item, and the second one for the first time.
		if got := r.Way(0, side, 0); got != 1+side {
			t.Fatalf("side %d: %d are told", side, got)
		}
		rounds(t, r, 0, 3, up, down)
		expectPoll(t, r, 0, x("81 01"), none)
		expectPoll(t, r, 0, x("81 02"), none)
		expectNothing(t, r, 0)
	}
}

// T4, P22.4: a Break on either side, at each step of a message's way, leaves no gap and repeats nothing; what the receiver has is not told again.
func TestBreakAtEachStep(t *testing.T) {
	steps := []relay.Act{
		{Kind: actSend, Load: []byte(`[1]`)}, {Kind: actTick}, {Kind: actDeliver}, {Kind: actTick}, {Kind: actDeliver, Net: 1}, {Kind: actDeliver, Net: 1},
		{Kind: actDeliver, Side: 1}, {Kind: actTick}, {Kind: actDeliver, Side: 1, Net: 1},
	}
	for at := range len(steps) + 1 {
		for side := range 2 {
			r := withRoute(t, 1, 1, json, cbor)
			for i, a := range steps {
				if i == at {
					doAll(t, r, relay.Act{Kind: actBreak, Side: side})
				}
				r.Do(a)
			}
			doAll(t, r, relay.Act{Kind: actBreak, Side: side})
			rounds(t, r, 0, 4, up, down)
			expectPoll(t, r, 0, x("81 01"), none)
			sends(t, r, 0, []byte(`[2]`))
			rounds(t, r, 0, 4, up, down)
			expectPoll(t, r, 0, x("81 02"), none)
			expectNothing(t, r, 0)
			if got := stateOf(r, 0); got.accepted != 2 || got.delivered != 2 || got.waits != 0 || got.held != [2]int{} {
				t.Fatalf("a Break ahead of step %d, side %d: %v", at, side, got)
			}
		}
	}
}

// P22.2: a Break on side 1 tells the sender there what came, so that what waits moves on at once.
func TestBreakLetsMoveOn(t *testing.T) {
	r := withRoute(t, 1, 1, json, cbor)
	sends(t, r, 0, numbered(1))
	rounds(t, r, 0, 2, up)
	sends(t, r, 0, numbered(2))
	rounds(t, r, 0, 2, up)
	sends(t, r, 0, numbered(3))
	rounds(t, r, 0, 1, up)
	got := stateOf(r, 0)
	if got.accepted != 3 || got.waits != 1 || got.held != [2]int{1, 0} {
		t.Fatal(got)
	}
	doAll(t, r, relay.Act{Kind: actDeliver, Side: 1})
	expectPoll(t, r, 0, x("81 01"), none)
	if got = stateOf(r, 0); got.waits != 1 || got.held != [2]int{1, 0} {
		t.Fatal(got)
	}
	doAll(t, r, relay.Act{Kind: actBreak, Side: 1})
	// The second message goes to the link at side 1, the third from that at side 0 to the items.
	if got = stateOf(r, 0); got.waits != 1 || got.held != [2]int{} {
		t.Fatal(got)
	}
	doAll(t, r, relay.Act{Kind: actBreak})
	sends(t, r, 0, numbered(4))
	rounds(t, r, 0, 8, up, down)
	expectPoll(t, r, 0, x("81 02"), none)
	rounds(t, r, 0, 8, up, down)
	expectPoll(t, r, 0, x("81 03"), none)
	rounds(t, r, 0, 8, up, down)
	expectPoll(t, r, 0, x("81 04"), none)
	expectNothing(t, r, 0)
}

// P22.2, P22.4: messages of all ways, with losses and without, and what is none: what Poll answers, and its trailer; that of a record is empty.
func TestWhatComes(t *testing.T) {
	for _, way := range []struct {
		from, to int
		list     [][3][]byte
	}{
		{json, json, [][3][]byte{
			{[]byte(` [ 1.50 ,"\u0061" ]`), []byte(`[15e-1,"a"]`), none},
			{[]byte(`[`), []byte(`{"error":3,"at":1}`), nil},
			{nil, []byte(`{"error":3,"at":0}`), nil},
			{text(1095), text(1095), none},
			{text(1096), []byte(manyJson), nil},
			{text(mostSent - 2), []byte(manyJson), nil},
		}},
		{json, cbor, [][3][]byte{
			{[]byte(`[1]`), x("81 01"), none},
			{[]byte(`{"a": [true, null]}`), x("a1 61 61 82 f5 f6"), none},
			{[]byte(`{"a":1,"a":2}`), x("a2 65 6572726f72 09 62 6174 07"), nil},
			{text(1094), append(x("79 0446"), bytes.Repeat([]byte{'a'}, 1094)...), none},
			{text(1095), []byte(manyCbor), nil},
		}},
		{cbor, json, [][3][]byte{
			{x("41 ff"), []byte(`"ff"`), []byte{1, 3, 0, 0}},
			{x("a1 01 02"), []byte(`[[1,2]]`), []byte{1, 5, 0, 0}},
			{x("82 f7 e0"), []byte(`[null,null]`), []byte{2, 6, 23, 1, 0, 6, 0, 1, 1}},
			{x("f9 3c00"), []byte(`1`), x("01 01 bff880808080808000 00")},
			{x("81 1c"), []byte(`{"error":5,"at":1}`), nil},
			{append(x("59 0300"), make([]byte, 0x300)...), []byte(manyJson), nil},
		}},
		{cbor, cbor, [][3][]byte{
			{x("5f 41 ff ff"), x("41 ff"), none},
			{x("bf 01 02 ff"), x("a1 01 02"), none},
			{x("00 00"), x("a2 65 6572726f72 0a 62 6174 01"), nil},
			{make([]byte, mostSent), x("a2 65 6572726f72 0a 62 6174 01"), nil},
			{append(x("59 0449"), make([]byte, 0x449)...), []byte(manyCbor), nil},
		}},
	} {
		r := withRoute(t, 8, 8, way.from, way.to)
		for _, one := range way.list {
			sends(t, r, 0, one[0])
		}
		rounds(t, r, 0, 3, up, down)
		for _, one := range way.list {
			expectPoll(t, r, 0, one[1], one[2])
		}
		expectNothing(t, r, 0)
	}
}

// P22.2, P22.3, P22.6: with all that comes to the relay, and nothing that leaves it, as much is taken as has room: twice the window, and the queue. Then all of it comes, in order.
func TestFull(t *testing.T) {
	for _, window := range []int{1, 2, 3, 31, mostWindow} {
		for _, queue := range []int{1, 2, 31, 63, mostQueue} {
			r := withRoute(t, window, queue, json, json)
			most, sent := queue+2*window, 0
			for range 3 * most {
				if r.Do(relay.Act{Kind: actSend, Load: numbered(sent)}).Why == api.OK {
					sent++
				}
				rounds(t, r, 0, 1, up)
			}
			got := stateOf(r, 0)
			if sent != most || got.accepted != most || got.waits != queue || got.held != [2]int{window, 0} || got.delivered != 0 {
				t.Fatalf("window %d, queue %d: %d were sent, %v", window, queue, sent, got)
			}
			expectWhy(t, r, relay.Act{Kind: actSend, Load: numbered(sent)}, api.ErrWait)
			for r.Way(0, down, 0) > 0 {
				r.Do(relay.Act{Kind: actDeliver, Side: 1})
			}
			if got = stateOf(r, 0); got.waits != queue || got.held != [2]int{window, window} {
				t.Fatalf("window %d, queue %d: %v", window, queue, got)
			}
			for n := range most {
				// The acks of so many rounds fill the net, so that a first new one may be lost.
				if n > 0 && n%window == 0 {
					rounds(t, r, 0, 3, up, down)
				}
				expectPoll(t, r, 0, numbered(n), none)
			}
			expectNothing(t, r, 0)
		}
	}
}

// P22.2: a full window at side 1 keeps items in the queue, till an ack there, and no Poll alone, makes room; and a full queue keeps loads in the link at side 0.
func TestMovesOnAtEachAck(t *testing.T) {
	r := withRoute(t, 2, 1, json, json)
	sends(t, r, 0, numbered(0), numbered(1))
	rounds(t, r, 0, 2, up)
	sends(t, r, 0, numbered(2), numbered(3))
	rounds(t, r, 0, 2, up)
	sends(t, r, 0, numbered(4))
	rounds(t, r, 0, 2, up)
	expectFlow := func(waits, held0, held1 int) {
		t.Helper()
		if got := stateOf(r, 0); got.waits != waits || got.held != [2]int{held0, held1} {
			t.Fatal(got)
		}
	}
	expectFlow(1, 2, 0)
	for range r.Way(0, down, 0) {
		r.Do(relay.Act{Kind: actDeliver, Side: 1})
	}
	expectFlow(1, 2, 2)
	expectPoll(t, r, 0, numbered(0), none)
	expectFlow(1, 2, 1)
	for r.Way(0, down, 1) > 0 {
		doAll(t, r, relay.Act{Kind: actDrop, Side: 1, Net: 1})
	}
	tick(t, r)
	expectFlow(1, 2, 1)
	doAll(t, r, relay.Act{Kind: actDeliver, Side: 1, Net: 1})
	expectFlow(1, 1, 1)
	tick(t, r)
	doAll(t, r, relay.Act{Kind: actDeliver, Side: 1, Net: 1})
	expectFlow(1, 1, 1)
	expectPoll(t, r, 0, numbered(1), none)
	tick(t, r)
	doAll(t, r, relay.Act{Kind: actDeliver, Side: 1, Net: 1})
	expectFlow(1, 0, 0)
	expectNothing(t, r, 0)
	rounds(t, r, 0, 4, up, down)
	expectPoll(t, r, 0, numbered(2), none)
	expectPoll(t, r, 0, numbered(3), none)
	rounds(t, r, 0, 2, up, down)
	expectPoll(t, r, 0, numbered(4), none)
	expectNothing(t, r, 0)
	expectFlow(0, 0, 0)
}

// P22.2: one act moves on as much as there is room for: a load that fills a gap takes all those behind it along, up to the link at side 1.
func TestMovesOnAllAtOnce(t *testing.T) {
	for queue := 1; queue <= 8; queue++ {
		r := withRoute(t, 8, queue, json, json)
		for n := range 8 {
			sends(t, r, 0, numbered(n))
		}
		tick(t, r)
		for range 7 {
			doAll(t, r, relay.Act{Kind: actDeliver, I: 1})
		}
		expectState(t, r, 0, state{accepted: 8, held: [2]int{7, 0}, way: [2][2]int{{1, 1}, {0, 1}}})
		doAll(t, r, relay.Act{Kind: actDeliver})
		expectState(t, r, 0, state{accepted: 8, way: [2][2]int{{0, 1}, {0, 1}}})
		tick(t, r)
		expectState(t, r, 0, state{accepted: 8, way: [2][2]int{{8, 2}, {8, 2}}})
		deliver(t, r, 0, 1, 0)
		for n := range 8 {
			expectPoll(t, r, 0, numbered(n), none)
		}
	}
}

// P22.3: sides and nets that are none are told as 0, and so are all of routes that there are not.
func TestCountsOfNone(t *testing.T) {
	r := withRoute(t, 2, 2, json, json)
	sends(t, r, 0, []byte(`1`))
	rounds(t, r, 0, 2, up)
	deliver(t, r, 0, 1, 0)
	sends(t, r, 0, []byte(`2`))
	tick(t, r)
	tick(t, r)
	expectState(t, r, 0, state{accepted: 2, held: [2]int{0, 1}, way: [2][2]int{{2, 2}, {1, 4}}})
	for _, wrong := range wrongSides() {
		got := []int{r.Held(0, wrong), r.Way(0, wrong, 0), r.Way(0, wrong, 1), r.Way(0, wrong, wrong), r.Way(0, 0, wrong), r.Way(0, 1, wrong)}
		if !slices.Equal(got, make([]int, 6)) {
			t.Fatalf("%d: %v", wrong, got)
		}
	}
	for _, n := range []int{-1, 1, 2, mostRoutes, math.MaxInt, math.MinInt} {
		expectState(t, r, n, state{})
	}
}

// P22.3: each route tells its own numbers.
func TestCountsOfEach(t *testing.T) {
	r := made(t, 4, 4)
	for n := range mostRoutes {
		expectAdd(t, r, json, json, uint64(n+1), uint64(n+100), n, api.OK)
		for range n % 5 {
			sends(t, r, n, []byte(`1`))
		}
	}
	tick(t, r)
	for n := range mostRoutes {
		expectState(t, r, n, state{accepted: n % 5, way: [2][2]int{{n % 5, 1}, {0, 1}}})
	}
}

// P22.2: a Tick is one of all links: what each of them was sent is told, and an ack of each.
func TestTickOfAll(t *testing.T) {
	r := made(t, 2, 2)
	tick(t, r)
	for n := range mostRoutes {
		expectAdd(t, r, json, cbor, uint64(n+1), uint64(n+100), n, api.OK)
		sends(t, r, n, []byte(`1`))
		// The Route of a Tick says nothing.
		doAll(t, r, relay.Act{Kind: actTick, Route: -n, Side: 7, Net: 9, I: 9, By: 9, Load: []byte("any")})
		for m := range n + 1 {
			if got := r.Way(m, 1, 1); got != n-m+1 || r.Way(m, 0, 1) != got {
				t.Fatalf("route %d of %d: %d acks", m, n+1, got)
			}
		}
	}
}

// P22.2, P22.3, P22.8: behind a Reset, with items that wait and loads in both links, all acts but a Tick are refused, nothing is answered, and all numbers stay.
func TestReset(t *testing.T) {
	r := withRoute(t, 2, 2, json, json)
	expectAdd(t, r, json, cbor, 7, 8, 1, api.OK)
	for n := range 6 {
		sends(t, r, 0, numbered(n))
		rounds(t, r, 0, 2, up)
	}
	doAll(t, r, relay.Act{Kind: actDeliver, Side: 1})
	tick(t, r)
	want := stateOf(r, 0)
	if want.accepted != 6 || want.waits != 2 || want.held[0] != 2 || want.held[1] == 0 || want.way[0][1] == 0 || want.way[1][0] == 0 || want.way[1][1] == 0 {
		t.Fatal(want)
	}
	doAll(t, r, relay.Act{Kind: actReset})
	expectState(t, r, 0, want)
	for kind := actSend; kind <= actReset; kind++ {
		for _, side := range append(wrongSides(), 0, 1) {
			for _, net := range []int{0, 1, 2, -1} {
				why := api.ErrOver
				if kind == actTick {
					why = api.OK
				}
				expectWhy(t, r, relay.Act{Kind: kind, Side: side, Net: net, Load: []byte(`1`)}, why)
				expectState(t, r, 0, want)
			}
		}
	}
	expectWhy(t, r, relay.Act{Kind: actSend, Load: make([]byte, mostBytes)}, api.ErrOver)
	expectWhy(t, r, relay.Act{Kind: 11}, api.ErrArg)
	if got := []int{r.Held(0, 2), r.Held(0, -1), r.Way(0, 2, 0), r.Way(0, 0, 2), r.Way(0, 1, -1)}; !slices.Equal(got, make([]int, 5)) {
		t.Fatal(got)
	}
	// The other route goes on.
	sends(t, r, 1, []byte(`[1]`))
	for range 70 {
		rounds(t, r, 1, 1, up, down)
		expectState(t, r, 0, want)
		expectWhy(t, r, relay.Act{Kind: actPoll}, api.ErrOver)
	}
	expectPoll(t, r, 1, x("81 01"), none)
}

// P22.2: a Reset behind which nothing moves on: of routes that were never used, and of ones in the midst.
func TestResetAlone(t *testing.T) {
	r := withRoute(t, 1, 1, json, json)
	doAll(t, r, relay.Act{Kind: actReset})
	expectState(t, r, 0, state{})
	expectWhy(t, r, relay.Act{Kind: actReset}, api.ErrOver)
	r = withRoute(t, 1, 1, json, json)
	sends(t, r, 0, []byte(`1`))
	rounds(t, r, 0, 2, up)
	deliver(t, r, 0, 1, 0)
	want := stateOf(r, 0)
	if want.held[1] != 1 {
		t.Fatal(want)
	}
	doAll(t, r, relay.Act{Kind: actReset})
	expectState(t, r, 0, want)
	expectWhy(t, r, relay.Act{Kind: actPoll}, api.ErrOver)
}

// P22.2: a Tick goes past routes that have ended, wherever they are in the row.
func TestTickPastEnded(t *testing.T) {
	for ended := range 8 {
		r := made(t, 1, 1)
		for n := range 3 {
			expectAdd(t, r, json, cbor, uint64(n+1), uint64(n+100), n, api.OK)
			sends(t, r, n, numbered(n))
		}
		for n := range 3 {
			if ended>>n&1 == 1 {
				doAll(t, r, relay.Act{Kind: actReset, Route: n})
			}
		}
		tick(t, r)
		for n := range 3 {
			if ended>>n&1 == 1 {
				expectState(t, r, n, state{accepted: 1})
				continue
			}
			expectState(t, r, n, state{accepted: 1, way: [2][2]int{{1, 1}, {0, 1}}})
		}
		for n := range 3 {
			if ended>>n&1 == 0 {
				rounds(t, r, n, 3, up, down)
				expectPoll(t, r, n, []byte{0x81, byte(n)}, none)
			}
		}
	}
}

// P22.3, R5: a nil relay and one that New did not give, at each method, in any order, at right and wrong arguments.
func TestNotMade(t *testing.T) {
	for _, r := range []*relay.Relay{nil, {}, new(relay.Relay)} {
		for range 2 {
			for _, n := range []int{0, 1, -1, mostRoutes, math.MaxInt, math.MinInt} {
				for _, kind := range append(wrongKinds(), 1, 2, 3, 4, 5, 6, 7, 8, 9, 10) {
					for _, side := range []int{0, 1, 2, -1} {
						expectWhy(t, r, relay.Act{Kind: kind, Route: n, Side: side, Load: []byte(`1`)}, api.ErrNil)
					}
				}
				expectState(t, r, n, state{})
				if r.Held(n, 2) != 0 || r.Way(n, 2, 0) != 0 || r.Way(n, 0, 2) != 0 || r.Way(n, -1, -1) != 0 {
					t.Fatal("a relay that nobody made tells numbers")
				}
			}
			for _, format := range append(wrongFormats(), json, cbor) {
				for _, tokens := range [][2]uint64{{1, 2}, {1, 1}, {0, 1}, {1, 0}, {0, 0}} {
					expectAdd(t, r, format, json, tokens[0], tokens[1], 0, api.ErrNil)
					expectAdd(t, r, json, format, tokens[0], tokens[1], 0, api.ErrNil)
				}
			}
		}
	}
}

// R3: several relays know nothing of one another, and may have the same tokens.
func TestRelaysApart(t *testing.T) {
	first, second := withRoute(t, 1, 1, json, cbor), withRoute(t, 2, 2, cbor, json)
	sends(t, first, 0, []byte(`[1]`))
	expectState(t, second, 0, state{})
	rounds(t, first, 0, 3, up, down)
	expectState(t, second, 0, state{})
	sends(t, second, 0, x("41 ff"), x("81 02"))
	doAll(t, first, relay.Act{Kind: actReset})
	rounds(t, second, 0, 3, up, down)
	expectPoll(t, second, 0, []byte(`"ff"`), []byte{1, 3, 0, 0})
	expectPoll(t, second, 0, []byte(`[2]`), none)
	expectWhy(t, first, relay.Act{Kind: actPoll}, api.ErrOver)
}

// overwrite turns all bytes, up to all room that there is.
func overwrite(b []byte) {
	b = b[:cap(b)]
	for i := range b {
		b[i] ^= 0xFF
	}
}

// R4: loads that were handed to Send, and bytes that were handed to Forge, may be written over at once; no act writes into them.
func TestLoadsAreNotKept(t *testing.T) {
	for _, way := range ways {
		m := []byte(`"abc"`)
		if way[0] == cbor {
			m = []byte("\x63abc")
		}
		want, _ := comes(way[0], way[1], m)
		r := withRoute(t, 3, 3, way[0], way[1])
		for range 3 {
			whole := append(slices.Clone(m), bytes.Repeat([]byte{0xA5}, 32)...)
			before := slices.Clone(whole)
			sends(t, r, 0, whole[:len(m)])
			if !bytes.Equal(whole, before) {
				t.Fatalf("%s was written into", told(before))
			}
			overwrite(whole)
		}
		forged, _ := link.Pack(api.Msg{Kind: 1, Token: 99, Epoch: 1, Seq: 1, Load: m})
		whole := append(slices.Clone(forged), bytes.Repeat([]byte{0xA5}, 32)...)
		before := slices.Clone(whole)
		for place := range 4 {
			doAll(t, r, relay.Act{Kind: actForge, Side: place / 2, Net: place % 2, Load: whole[:len(forged)]})
		}
		if !bytes.Equal(whole, before) {
			t.Fatalf("%s was written into", told(before))
		}
		overwrite(whole)
		for place := range 4 {
			expectWhy(t, r, relay.Act{Kind: actDeliver, Side: place / 2, Net: place % 2}, api.ErrKind)
		}
		rounds(t, r, 0, 3, up, down)
		for range 3 {
			expectPoll(t, r, 0, want, none)
		}
	}
}

// R4: what Poll answered may be written over, and made longer: neither the other half of the answer, nor what comes later, nor what is told again, turns.
func TestAnswersAreTheCallers(t *testing.T) {
	for n := range 4 {
		r := withRoute(t, 4, 4, cbor, json)
		m := x("82 41 ff 61 61")
		sends(t, r, 0, m, m, x("1c"), x("1c"))
		rounds(t, r, 0, 3, up, down)
		load, trailer := []byte(`["ff","a"]`), []byte{1, 3, 0, 1, 0}
		got := r.Do(relay.Act{Kind: actPoll})
		switch n {
		case 0:
			overwrite(got.Load)
			got.Load = load
		case 1:
			overwrite(got.Trailer)
			got.Trailer = trailer
		case 2:
			_ = append(got.Load, 1, 2, 3, 4, 5, 6)
		case 3:
			_ = append(got.Trailer, 1, 2, 3, 4, 5, 6)
		}
		if !bytes.Equal(got.Load, load) || !bytes.Equal(got.Trailer, trailer) {
			t.Fatalf("case %d: %s", n, answered(got))
		}
		// The load is told anew, but is old.
		doAll(t, r, relay.Act{Kind: actBreak, Side: 1})
		rounds(t, r, 0, 3, up, down)
		expectPoll(t, r, 0, load, trailer)
		record := r.Do(relay.Act{Kind: actPoll})
		overwrite(record.Load)
		expectPoll(t, r, 0, []byte(`{"error":5,"at":0}`), nil)
		expectNothing(t, r, 0)
	}
}
