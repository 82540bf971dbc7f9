package link_test

import (
	"testing"

	"gantline/api"
)

// someActs are acts on what is ahead in the nets, each of which a row of acts may do.
func someActs() []func(b *both) {
	return []func(b *both){
		func(b *both) { b.send(named(len(b.done))) },
		func(b *both) { b.tick() },
		func(b *both) { b.deliver(0, 0) },
		func(b *both) { b.deliver(1, 0) },
		func(b *both) { b.poll() },
		func(b *both) { b.reconnect() },
		func(b *both) { b.deliver(0, 1) },
		func(b *both) { b.drop(0, 0) },
		func(b *both) { b.twice(0, 0) },
		func(b *both) { b.turn(0, 0, 5, 1) },
		func(b *both) { b.drop(1, 0) },
		func(b *both) { b.turn(1, 0, 0, 256) },
	}
}

// allRows does all rows of so many acts behind a beginning, and then something.
func allRows(t *testing.T, window, acts int, begin, end func(b *both)) {
	list := someActs()
	rows := 1
	for range acts {
		rows *= len(list)
	}
	for row := range rows {
		b := newBoth(t, window, 7)
		begin(b)
		for rest, n := row, 0; n < acts; rest, n = rest/len(list), n+1 {
			list[rest%len(list)](b)
		}
		end(b)
	}
}

// P19.2 to P19.5, P19.7: all rows of five acts behind a Send, held against the model.
func TestAllShortRows(t *testing.T) {
	for window := 1; window <= 2; window++ {
		allRows(t, window, 5, func(b *both) { b.send(named(0)) }, func(b *both) {
			for b.poll() {
			}
		})
	}
}

// P19.6: all rows of three acts behind loads on their way, of which some came, and fair rounds behind them.
func TestAllShortRowsFair(t *testing.T) {
	begins := []func(b *both){
		func(b *both) {},
		func(b *both) { b.send(named(1)); b.send(named(2)); b.tick(); b.tick() },
		func(b *both) { b.send(named(1)); b.send(named(2)); b.tick(); b.deliver(0, 1); b.tick() },
		func(b *both) {
			b.send(named(1))
			b.tick()
			b.deliver(0, 0)
			b.poll()
			b.reconnect()
			b.tick()
		},
	}
	for window := 1; window <= 2; window++ {
		for _, begin := range begins {
			allRows(t, window, 3, begin, func(b *both) { b.fair() })
		}
	}
}

// P19.2 to P19.7, R1, R7: long rows of any acts, right and wrong ones, held against the model; fair rounds behind them.
func TestChanceAgainstModel(t *testing.T) {
	c := chance(1919)
	for row := range 400 {
		b := newBoth(t, 1+row%mostWindow, uint64(c.of(0, 1, 7, 300)))
		bad := c.of(0, 10, 30, 60)
		for range 400 {
			c.act(b, bad)
		}
		b.fair()
	}
}

// P19.5, P19.7: a long way with much that is lost and turned: what is answered is what was sent, in order.
func TestLongWay(t *testing.T) {
	c := chance(1920)
	for _, window := range []int{1, 2, 7, mostWindow} {
		b := newBoth(t, window, 7)
		for b.m.got < 400 {
			// What was done is told of in the last rounds alone.
			b.done = b.done[:0]
			b.tick()
			for range 3 * window {
				c.act(b, 40)
			}
			for net := range 2 {
				for n := b.l.Way(net) / 2; n > 0; n-- {
					b.deliver(net, c.below(n))
				}
			}
		}
		b.fair()
	}
}

// P19.6: nets full of others' datagrams, and loads that were told without a way so often that they wait for 64 ticks: 66 rounds are enough wherever they begin, and some need nearly as many.
func TestFairBehindTheWorst(t *testing.T) {
	most := 0
	for _, window := range []int{1, 5, mostWindow} {
		for ticks := range 200 {
			b := newBoth(t, window, 7)
			for range window {
				b.send(named(b.l.Sent() + 1))
			}
			for range mostOnWay {
				b.forge(0, foreign(1))
				b.forge(1, foreign(1))
			}
			for range ticks {
				b.tick()
			}
			b.done = nil
			most = max(most, b.fair())
		}
	}
	if most < 64 || most > fairRounds {
		t.Fatalf("the worst needs %d rounds", most)
	}
}

// P19.6: only the acks are lost, or only the loads' first datagrams; and a link that is begun anew again and again.
func TestFairBehindOneSide(t *testing.T) {
	for window := 1; window <= mostWindow; window++ {
		for net := range 2 {
			b := newBoth(t, window, 7)
			for round := range 90 {
				b.send(named(round))
				b.tick()
				for b.l.Way(net) > 0 {
					b.drop(net, 0)
				}
				for b.l.Way(1-net) > 0 {
					b.deliver(1-net, 0)
				}
				if round%3 == 0 {
					b.poll()
				}
				if round%17 == 16 {
					b.reconnect()
				}
			}
			b.fair()
		}
	}
}

// R7: acts that are refused, at any place of a row, turn no later answer.
func TestRefusedTurnsNothing(t *testing.T) {
	c := chance(1921)
	for row := range 100 {
		b := newBoth(t, 1+row%mostWindow, 7)
		for range 150 {
			c.act(b, 30)
			// The model is not asked: it stays as it was.
			expect(t, "Send", b.l.Send(make([]byte, mostSent+1)), api.ErrMany)
			if b.l.Sent()-b.l.Got() == b.m.window {
				expect(t, "Send", b.l.Send(nil), api.ErrWait)
			}
			for net := range 2 {
				for _, i := range []int{-1, b.l.Way(net)} {
					expect(t, "Deliver", b.l.Deliver(net, i), api.ErrNone)
					expect(t, "Drop", b.l.Drop(net, i), api.ErrNone)
					expect(t, "Twice", b.l.Twice(net, i), api.ErrNone)
					expect(t, "Turn", b.l.Turn(net, i, 0, 1), api.ErrNone)
				}
				expect(t, "Forge", b.l.Forge(net, make([]byte, mostFrame+1)), api.ErrMany)
				expect(t, "Forge", b.l.Forge(net, packed(c.msg(7))), api.ErrArg)
				for i, d := range b.m.nets[net] {
					if d.spoilt {
						expect(t, "Turn", b.l.Turn(net, i, c.below(20), uint32(c.next())), api.ErrState)
					}
				}
				expect(t, "Deliver", b.l.Deliver(2, 0), api.ErrArg)
			}
			b.hold(api.OK, api.OK)
		}
		b.fair()
	}
}

// P19.5: forged datagrams without the token bring nothing, whatever they are, among others that come.
func TestForgedBringNothing(t *testing.T) {
	c := chance(1922)
	for row := range 100 {
		b := newBoth(t, 1+row%4, 7)
		for range 100 {
			b.forge(c.below(2), c.forged(b.m))
			c.act(b, 0)
		}
		b.fair()
	}
}

// R3: the same acts have the same answers.
func TestSameAnswers(t *testing.T) {
	for seed := range 30 {
		one, two := chance(seed+1), chance(seed+1)
		first, second := newBoth(t, 1+seed%mostWindow, 7), newBoth(t, 1+seed%mostWindow, 7)
		for range 200 {
			one.act(first, 30)
			two.act(second, 30)
			if a, b := stateOf(first.l), stateOf(second.l); a != b {
				t.Fatalf("%v and %v", a, b)
			}
		}
	}
}
