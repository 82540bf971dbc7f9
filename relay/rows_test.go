package relay_test

import (
	"bytes"
	"testing"

	"gantline/api"
	"gantline/relay"
	"gantline/tran"
)

// someActs are acts at the first route, each of which a row of acts may do.
func someActs() []func(b *both) {
	do := func(list ...relay.Act) func(b *both) {
		return func(b *both) {
			for _, a := range list {
				b.do(a)
			}
		}
	}
	return []func(b *both){
		func(b *both) { b.do(relay.Act{Kind: actSend, Load: numbered(len(b.done))}) },
		do(relay.Act{Kind: actTick}),
		do(relay.Act{Kind: actDeliver}),
		do(relay.Act{Kind: actDeliver, Net: 1}),
		do(relay.Act{Kind: actDeliver, Side: 1}),
		do(relay.Act{Kind: actDeliver, Side: 1, Net: 1}),
		do(relay.Act{Kind: actPoll}),
		do(relay.Act{Kind: actBreak}),
		do(relay.Act{Kind: actBreak, Side: 1}),
		do(relay.Act{Kind: actDrop, Side: 1}, relay.Act{Kind: actTwice}),
		do(relay.Act{Kind: actTurn, By: 1}, relay.Act{Kind: actForge, Side: 1, Load: []byte("any")}),
		do(relay.Act{Kind: actReset}),
	}
}

// allRows does all rows of so many acts behind a beginning, and then something.
func allRows(t *testing.T, window, queue, acts int, begin, end func(b *both)) {
	list := someActs()
	rows := 1
	for range acts {
		rows *= len(list)
	}
	for row := range rows {
		b := oneRoute(t, window, queue, json, cbor)
		begin(b)
		for rest, n := row, 0; n < acts; rest, n = rest/len(list), n+1 {
			list[rest%len(list)](b)
		}
		end(b)
	}
}

// rounds are ticks, behind each of which all that is on its way on these sides comes.
func (b *both) rounds(count int, sides ...int) {
	b.t.Helper()
	for range count {
		b.do(relay.Act{Kind: actTick})
		for _, side := range sides {
			for net := range 2 {
				for range b.r.Way(0, side, net) {
					b.do(relay.Act{Kind: actDeliver, Side: side, Net: net})
				}
			}
		}
	}
}

// fill sends as much as there is room for.
func (b *both) fill() {
	for range 4 * b.m.queue * b.m.window {
		b.do(relay.Act{Kind: actSend, Load: numbered(len(b.done))})
		b.rounds(1, up)
	}
}

// begins are what rows of acts are done behind: nothing, a message on its way on each side, and a route that is full, with and without what came to the consumer.
func begins() []func(b *both) {
	return []func(b *both){
		func(b *both) {},
		func(b *both) {
			b.do(relay.Act{Kind: actSend, Load: numbered(0)})
			b.rounds(1, up)
			b.do(relay.Act{Kind: actSend, Load: numbered(1)})
			b.do(relay.Act{Kind: actTick})
		},
		func(b *both) { b.fill() },
		func(b *both) { b.fill(); b.rounds(1, down) },
	}
}

// P22.2 to P22.4, P22.6, P22.8: all rows of four acts behind nothing, and of three behind several beginnings, held against the model.
func TestAllShortRows(t *testing.T) {
	poll := func(b *both) { b.do(relay.Act{Kind: actPoll}) }
	for window := 1; window <= 2; window++ {
		for queue := 1; queue <= 2; queue++ {
			for i, begin := range begins() {
				acts := 3
				if i == 0 && window == 1 {
					acts = 4
				}
				allRows(t, window, queue, acts, begin, poll)
			}
		}
	}
}

// P22.5: all rows of two acts behind several beginnings, and fair rounds behind them.
func TestAllShortRowsFair(t *testing.T) {
	for queue := 1; queue <= 2; queue++ {
		for _, begin := range begins() {
			allRows(t, 1, queue, 2, begin, func(b *both) { b.fair() })
		}
	}
}

// P22.1 to P22.8, R1, R7: long rows of any acts at several routes, right and wrong ones, held against the model; fair rounds behind them.
func TestChanceAgainstModel(t *testing.T) {
	c := chance(2222)
	for n := range 120 {
		b := newBoth(t, c.of(1, 2, 3, 7, mostWindow), c.of(1, 2, 3, 7, mostQueue))
		bad := c.of(0, 10, 30, 60)
		for step := range 800 {
			if step == 0 || c.below(150) == 0 {
				b.add(c.of(json, cbor), c.of(json, cbor), uint64(c.below(40)), uint64(c.below(40)))
			}
			b.do(c.act(b, bad))
			if c.below(2000) == 0 {
				b.do(relay.Act{Kind: actReset, Route: c.below(len(b.m.routes) + 1)})
			}
		}
		if n%3 == 0 {
			b.fair()
		}
	}
}

// P22.5, T1: whatever chance did to full routes of all ways, 400 fair rounds are enough.
func TestFairBehindChance(t *testing.T) {
	c := chance(2225)
	for n, way := range ways {
		b := oneRoute(t, c.of(1, 2, 5), c.of(1, 2, 20), way[0], way[1])
		for range 1500 {
			b.do(c.act(b, 20+20*(n%2)))
		}
		b.fair()
	}
}

// P22.5: the worst: routes that are full, whose loads were all told so often without a way that they wait for 64 ticks, with nets full of others' datagrams; 400 rounds are enough.
func TestFairBehindTheWorst(t *testing.T) {
	most := 0
	for _, size := range [][2]int{{1, 1}, {1, 2}, {2, 1}, {1, mostQueue}, {3, 7}, {mostWindow, 1}, {mostWindow, mostQueue}} {
		for _, ticks := range []int{0, 1, 64, 127, 128, 191} {
			b := oneRoute(t, size[0], size[1], json, json)
			for n := range 2 * (size[1] + 2*size[0]) {
				b.do(relay.Act{Kind: actSend, Load: numbered(n)})
				b.rounds(1, up)
			}
			if got := b.r.Accepted(0); got != size[1]+2*size[0] {
				t.Fatalf("%v: %d were taken", size, got)
			}
			b.do(relay.Act{Kind: actPoll})
			for range ticks {
				b.do(relay.Act{Kind: actTick})
			}
			for place := range 4 {
				for b.r.Way(0, place/2, place%2) > 0 {
					b.do(relay.Act{Kind: actDrop, Side: place / 2, Net: place % 2})
				}
				for b.r.Way(0, place/2, place%2) < 256 {
					b.do(relay.Act{Kind: actForge, Side: place / 2, Net: place % 2})
				}
			}
			most = max(most, b.fair())
		}
	}
	if most < 150 || most > fairRounds {
		t.Fatalf("%d rounds were needed at most", most)
	}
}

// P22.4, P22.6, T1: a long way with much that is lost, doubled, turned and forged: what is answered is what comes of what was sent, in order.
func TestLongWay(t *testing.T) {
	c := chance(2224)
	for n, way := range ways {
		b := oneRoute(t, []int{1, 2, 7, mostWindow}[n], []int{mostQueue, 7, 2, 1}[n], way[0], way[1])
		for b.m.routes[0].polled < 150 {
			// What was done is told of in the last rounds alone.
			b.done = b.done[:0]
			b.do(relay.Act{Kind: actTick})
			for range 3 * b.m.window {
				b.do(c.act(b, 30))
			}
			for place := range 4 {
				for left := b.r.Way(0, place/2, place%2) / 2; left > 0; left-- {
					b.do(relay.Act{Kind: actDeliver, Side: place / 2, Net: place % 2, I: c.below(left)})
				}
			}
		}
		b.fair()
	}
}

// P22.6: as many items wait, and as many loads stand in each link's end, as may be, at some time of each of these rows; never more, as hold asks behind each act.
func TestBoundsAreReached(t *testing.T) {
	for _, size := range [][2]int{{1, 1}, {1, 3}, {3, 1}, {2, 5}, {mostWindow, mostQueue}} {
		b := oneRoute(t, size[0], size[1], cbor, cbor)
		for range 3 * (size[1] + 2*size[0]) {
			b.do(relay.Act{Kind: actSend, Load: []byte{1}})
			b.rounds(1, up)
		}
		b.rounds(1, down)
		got := stateOf(b.r, 0)
		if got.accepted != size[1]+2*size[0] || got.waits != size[1] || got.held != [2]int{size[0], size[0]} {
			t.Fatalf("%v: %v", size, got)
		}
	}
}

// P22.7: a route's answers are the same with and without other routes, whatever is done to them.
func TestRoutesApart(t *testing.T) {
	c := chance(2227)
	for range 12 {
		b := newBoth(t, c.of(1, 2, 5), c.of(1, 2, 9))
		count := 2 + c.below(mostRoutes-1)
		for n := range count {
			b.add(c.of(json, cbor), c.of(json, cbor), uint64(2*n+1), uint64(2*n+2))
		}
		answers := make([]relay.Answer, 0, 1000)
		for range 1000 {
			answers = append(answers, b.do(c.act(b, 20)))
			if c.below(300) == 0 {
				answers = append(answers, b.do(relay.Act{Kind: actReset, Route: c.below(count)}))
			}
		}
		for n, o := range b.m.routes {
			expectAlone(t, b, n, o, answers)
		}
	}
}

// expectAlone wants a route that is alone to answer its own acts as it did among others, and to tell the same in the end.
func expectAlone(t *testing.T, b *both, n int, o *modelRoute, answers []relay.Answer) {
	t.Helper()
	r := made(t, b.m.window, b.m.queue)
	expectAdd(t, r, o.from, o.to, o.tokens[0], o.tokens[1], 0, api.OK)
	for i, a := range b.done {
		if a.Kind != actTick && a.Route != n {
			continue
		}
		a.Route = 0
		if got := r.Do(a); !sameAnswer(got, answers[i]) {
			t.Fatalf("route %d, %s: alone it is %s, among others %s", n, inWords(a), answered(got), answered(answers[i]))
		}
	}
	expectState(t, r, 0, stateOf(b.r, n))
}

// R7: acts and Adds that are refused, anywhere in a row, turn no later answer. (A datagram that was delivered went, so that a Deliver is none of them.)
func TestRefusedTurnsNothing(t *testing.T) {
	c := chance(77)
	for range 16 {
		b := newBoth(t, c.of(1, 2, 5), c.of(1, 2, 9))
		b.add(c.of(json, cbor), c.of(json, cbor), 5, 6)
		b.add(c.of(json, cbor), c.of(json, cbor), 7, 8)
		b.add(json, json, 9, 10)
		b.do(relay.Act{Kind: actReset, Route: 2})
		for range 300 {
			b.do(c.act(b, 20))
			// The model is not asked: it stays as it was.
			a := c.refused(b)
			if got := b.r.Do(a); got.Why == api.OK {
				t.Fatalf("%s is %s", inWords(a), answered(got))
			}
			expectAdd(t, b.r, json, json, 90, uint64(5+c.below(6)), 0, api.ErrTwice)
			expectAdd(t, b.r, json, 3, 90, 91, 0, api.ErrArg)
			b.hold()
		}
		b.fair()
	}
}

// refused is an act that no relay does, with all else of it right.
func (c *chance) refused(b *both) relay.Act {
	a := relay.Act{Kind: actDeliver + c.below(6), Route: c.below(2), Side: c.below(2), Net: c.below(2), By: 1}
	switch c.below(8) {
	case 0:
		a.Kind = wrongKinds()[c.below(len(wrongKinds()))]
	case 1:
		a.Route = c.of(-1, 2, 3, mostRoutes)
	case 2:
		a.Side = wrongSides()[c.below(len(wrongSides()))]
	case 3:
		a.Kind, a.Net = actDeliver+c.below(5), wrongSides()[c.below(len(wrongSides()))]
	case 4:
		a.Kind = actDeliver + c.below(4)
		a.I = c.of(-1, b.r.Way(a.Route, a.Side, a.Net), 256)
	case 5:
		a.Kind, a.Load = actSend, make([]byte, mostSent+1+c.below(100))
	case 6:
		a.Kind, a.Load = actForge, make([]byte, mostFrame+1+c.below(100))
	default:
		a.Kind, a.Route = c.of(actSend, actPoll, actDeliver, actDrop, actTwice, actTurn, actForge, actBreak, actReset), 2
	}
	return a
}

// R3: the same calls have the same answers, on whatever relay.
func TestSameAnswers(t *testing.T) {
	c := chance(3)
	for range 10 {
		b := oneRoute(t, 3, 3, cbor, json)
		b.add(json, cbor, 1, 2)
		var answers []relay.Answer
		for range 500 {
			answers = append(answers, b.do(c.act(b, 20)))
		}
		again := withRoute(t, 3, 3, cbor, json)
		expectAdd(t, again, json, cbor, 1, 2, 1, api.OK)
		for i, a := range b.done {
			if got := again.Do(a); !sameAnswer(got, answers[i]) {
				t.Fatalf("%s: first %s, then %s", inWords(a), answered(answers[i]), answered(got))
			}
		}
	}
}

// T2: what a consumer is answered, with the losses of the trailer given back, is the message that was sent, in its one form.
func TestWhatCameGivesBack(t *testing.T) {
	c := chance(22)
	seen := 0
	for _, way := range ways {
		b := oneRoute(t, 4, 4, way[0], way[1])
		for range 3000 {
			a := b.do(c.act(b, 10))
			// An empty trailer is that of a record.
			if !a.Has || len(a.Trailer) == 0 {
				continue
			}
			seen++
			m := b.m.routes[0].sent[b.r.Delivered(0)-1]
			form, _, fault := tran.Turn(way[0], way[0], m)
			back, why := tran.Back(way[0], way[1], a.Load, a.Trailer)
			if fault.Why != why.Why || !bytes.Equal(form, back) {
				t.Fatalf("%s came of %s: given back %s, %v: not %s, %v", told(a.Load), told(m), told(back), why, told(form), fault)
			}
		}
	}
	if seen < 200 {
		t.Fatalf("%d messages were given back", seen)
	}
}

// T3: a Send for which there is no room is told so; behind what makes room it is taken.
func TestSendWaits(t *testing.T) {
	r := withRoute(t, 1, 1, json, json)
	wait := relay.Act{Kind: actSend, Load: []byte(`[2]`)}
	sends(t, r, 0, []byte(`[1]`))
	for range 3 {
		expectWhy(t, r, wait, api.ErrWait)
		expectState(t, r, 0, state{accepted: 1})
	}
	rounds(t, r, 0, 1, up)
	expectWhy(t, r, wait, api.ErrWait)
	rounds(t, r, 0, 1, up)
	sends(t, r, 0, wait.Load)
	expectWhy(t, r, wait, api.ErrWait)
	rounds(t, r, 0, 4, up, down)
	expectPoll(t, r, 0, []byte(`[1]`), none)
	rounds(t, r, 0, 4, up, down)
	expectPoll(t, r, 0, []byte(`[2]`), none)
	expectNothing(t, r, 0)
}

// Examples 7 and 8 of the whole: a load whose datagram was lost is told again at the latest 64 ticks later; one that came twice is taken once.
func TestLostAndTwice(t *testing.T) {
	r := withRoute(t, 1, 1, json, json)
	sends(t, r, 0, []byte(`[1]`))
	for range 5 {
		var told []int
		for n := range 200 {
			tick(t, r)
			if r.Way(0, up, 0) > 0 {
				told = append(told, n)
				doAll(t, r, relay.Act{Kind: actDrop})
			}
		}
		for i := 1; i < len(told); i++ {
			if told[i]-told[i-1] > 64 {
				t.Fatalf("told again at %v", told)
			}
		}
	}
	for r.Way(0, up, 0) == 0 {
		tick(t, r)
	}
	doAll(t, r, relay.Act{Kind: actTwice}, relay.Act{Kind: actDeliver})
	expectWhy(t, r, relay.Act{Kind: actDeliver}, api.ErrOld)
	for r.Way(0, down, 0) == 0 {
		tick(t, r)
	}
	doAll(t, r, relay.Act{Kind: actTwice, Side: 1}, relay.Act{Kind: actDeliver, Side: 1})
	expectWhy(t, r, relay.Act{Kind: actDeliver, Side: 1}, api.ErrOld)
	expectPoll(t, r, 0, []byte(`[1]`), none)
	expectNothing(t, r, 0)
}

// Examples 1 to 6 and 10 of the whole.
func TestExamplesOfTheWhole(t *testing.T) {
	r := made(t, 4, 4)
	for n := range mostRoutes {
		way := ways[n%4]
		expectAdd(t, r, way[0], way[1], uint64(n+1), uint64(n+100), n, api.OK)
	}
	expectAdd(t, r, json, json, 90, 91, 0, api.ErrBusy)
	for _, one := range []struct {
		way           int
		m             []byte
		load, trailer []byte
	}{
		{1, []byte(`[1]`), x("81 01"), none},
		{2, x("41 ff"), []byte(`"ff"`), x("01 03 00 00")},
		{0, []byte(`[`), []byte(`{"error":3,"at":1}`), nil},
		{0, []byte(`1.50`), []byte(`15e-1`), none},
		{0, []byte(`15e-1`), []byte(`15e-1`), none},
		{2, x("f9 3c00"), []byte(`1`), x("01 01 bff880808080808000 00")},
		{2, x("a1 01 02"), []byte(`[[1,2]]`), x("01 05 00 00")},
	} {
		for n := one.way; n < mostRoutes; n += 4 {
			sends(t, r, n, one.m)
			rounds(t, r, n, 4, up, down)
			expectPoll(t, r, n, one.load, one.trailer)
			expectNothing(t, r, n)
		}
	}
}

// P22.8: behind a Reset no row of acts has an answer, whatever was on its way.
func TestNothingBehindReset(t *testing.T) {
	c := chance(2228)
	for range 30 {
		b := oneRoute(t, c.of(1, 2, 5), c.of(1, 2, 9), json, cbor)
		for range 150 {
			b.do(c.act(b, 10))
		}
		before := stateOf(b.r, 0)
		b.do(relay.Act{Kind: actReset})
		for range 150 {
			if a := b.do(c.act(b, 10)); a.Has || a.Load != nil || a.Trailer != nil {
				b.fail("%s", answered(a))
			}
			expectState(t, b.r, 0, before)
		}
	}
}
