package link_test

import (
	"bytes"
	"math"
	"slices"
	"testing"

	"gantline/api"
	"gantline/link"
)

// foreign is a datagram of another token than 7, which is what the tests' links have.
func foreign(n int) []byte { return packed(api.Msg{Kind: 1, Token: 8, Epoch: 1, Seq: n}) }

// times are so many of one error.
func times(n int, why api.Errno) []api.Errno { return slices.Repeat([]api.Errno{why}, n) }

// forgeAll puts so many datagrams of another token into a net.
func forgeAll(t *testing.T, l *link.Link, net, n int) {
	t.Helper()
	for i := range n {
		expect(t, "Forge", l.Forge(net, foreign(i+1)), api.OK)
	}
}

// sentAndTold is a link at the window 4 and with the token 7, with so many loads on their way.
func sentAndTold(t *testing.T, loads int) *link.Link {
	t.Helper()
	l := made(t, 4, 7)
	sendNamed(t, l, upTo(1, loads)...)
	l.Tick()
	return l
}

// The document's example.
func TestExample(t *testing.T) {
	l := made(t, 1, 1)
	expect(t, "Send", l.Send([]byte("a")), api.OK)
	l.Tick()
	expect(t, "Deliver", l.Deliver(0, 0), api.OK)
	if load, ok := l.Poll(); string(load) != "a" || !ok {
		t.Fatalf("Poll is %q, %v", load, ok)
	}
}

// P19.2, P19.4: each window that may be has a link without loads and datagrams, with any token.
func TestNew(t *testing.T) {
	for window := 1; window <= mostWindow; window++ {
		for _, token := range []uint64{0, 1, 1 << 63, math.MaxUint64} {
			l := made(t, window, token)
			expectState(t, l, 0, 0, 0, 0, 0)
			expectPoll(t, l)
			sendNamed(t, l, upTo(1, window)...)
			expect(t, "one more than the window", l.Send(nil), api.ErrWait)
			l.Tick()
			expectState(t, l, window, 1, window, 0, 0)
			expectAll(t, l, 0, times(window, api.OK)...)
			expectState(t, l, 0, 1, window, 0, window)
			expectPoll(t, l, upTo(1, window)...)
			expectState(t, l, 0, 1, window, window, 0)
		}
	}
}

// P19.2: windows that may not be.
func TestNewWrong(t *testing.T) {
	for _, window := range []int{0, -1, -2, -32, 33, 34, 64, 256 + 1, 1<<32 + 1, math.MaxInt, math.MinInt, math.MinInt + 1} {
		for _, token := range []uint64{0, 7} {
			if l, why := link.New(window, token); l != nil || why != api.ErrArg {
				t.Errorf("New(%d, %d) is %v, %v", window, token, l, why)
			}
		}
	}
}

// P19.2: loads from none to 1100 bytes are sent and answered as they were; longer ones are refused, and turn nothing.
func TestSendLengths(t *testing.T) {
	l := made(t, 1, math.MaxUint64)
	for n := range mostSent + 1 {
		load := bytes.Repeat([]byte{byte(n), byte(n >> 8), 165, 90, 0, 255}, n/6+1)[:n]
		expect(t, "Send", l.Send(load), api.OK)
		l.Tick()
		expectAll(t, l, 0, api.OK)
		if got, ok := l.Poll(); !ok || !bytes.Equal(got, load) {
			t.Fatalf("a load of %d bytes: %q, %v", n, got, ok)
		}
		expectAll(t, l, 1, api.OK)
		l.Tick()
		// The first ack was told before the load came: it is told again.
		expectAll(t, l, 0, api.ErrOld)
		expectAll(t, l, 1, api.OK)
	}
	for _, n := range []int{mostSent + 1, mostSent + 2, mostLoad, mostLoad + 1, mostFrame, 4096, 1 << 20} {
		l := made(t, 2, 7)
		expect(t, "Send", l.Send(make([]byte, n)), api.ErrMany)
		expectState(t, l, 0, 0, 0, 0, 0)
		sendNamed(t, l, 1)
		expect(t, "Send", l.Send(make([]byte, n)), api.ErrMany)
		sendNamed(t, l, 2)
		expect(t, "Send with a full window", l.Send(make([]byte, n)), api.ErrMany)
		expect(t, "Send with a full window", l.Send(make([]byte, mostSent)), api.ErrWait)
		expectState(t, l, 0, 0, 2, 0, 0)
		l.Tick()
		expectAll(t, l, 0, api.OK, api.OK)
		expectPoll(t, l, 1, 2)
	}
}

// P19.2, R6: a load that is nil and one that is empty are both sent, and answered as one of no bytes.
func TestSendNothing(t *testing.T) {
	for _, nothing := range [][]byte{nil, {}, make([]byte, 0, 9)} {
		l := made(t, 3, 7)
		expect(t, "Send", l.Send(nothing), api.OK)
		expectState(t, l, 0, 0, 1, 0, 0)
		l.Tick()
		expectAll(t, l, 0, api.OK)
		expectState(t, l, 0, 1, 1, 0, 1)
		if load, ok := l.Poll(); len(load) != 0 || !ok {
			t.Fatalf("Poll is %q, %v", load, ok)
		}
		expectPoll(t, l)
		expectState(t, l, 0, 1, 1, 1, 0)
	}
}

// P19.2, P19.7: there is room for one more load only when an ack tells that one was answered, not when it came.
func TestSendWaits(t *testing.T) {
	for window := 1; window <= mostWindow; window++ {
		l := made(t, window, 7)
		sendNamed(t, l, upTo(1, window)...)
		for n := 1; n <= 3*window+3; n++ {
			expect(t, "a full window", l.Send(named(0)), api.ErrWait)
			l.Tick()
			deliverAll(l, 0)
			expect(t, "loads came", l.Send(named(0)), api.ErrWait)
			deliverAll(l, 1)
			expect(t, "an ack of before", l.Send(named(0)), api.ErrWait)
			l.Tick()
			deliverAll(l, 1)
			expect(t, "an ack that they came", l.Send(named(0)), api.ErrWait)
			if load, ok := l.Poll(); !ok || !bytes.Equal(load, named(n)) {
				t.Fatalf("Poll is %q, %v", load, ok)
			}
			expect(t, "one was answered", l.Send(named(0)), api.ErrWait)
			l.Tick()
			expect(t, "an ack of it is on its way", l.Send(named(0)), api.ErrWait)
			expectAll(t, l, 1, api.OK)
			sendNamed(t, l, n+window)
			expect(t, "a full window", l.Send(named(0)), api.ErrWait)
			expectState(t, l, l.Way(0), 0, n+window, n, window-1)
		}
	}
}

// toldAgain are the ticks in which a load is told that was sent at a time, as long as no ack comes.
func toldAgain(sent, last int) []int {
	var list []int
	at, wait := sent+1, 1
	for at <= last {
		list = append(list, at)
		at += wait
		wait = min(2*wait, 64)
	}
	return list
}

// P19.2: without an ack a load is told in the ticks 1, 2, 4 and so on up to 64, then each 64 ticks; each tick tells an ack.
func TestTickTellsAgain(t *testing.T) {
	if list := toldAgain(0, 200); !slices.Equal(list, []int{1, 2, 4, 8, 16, 32, 64, 128, 192}) {
		t.Fatal(list)
	}
	for _, sent := range []int{0, 1, 5, 63} {
		l := made(t, 2, 7)
		for range sent {
			l.Tick()
			expectState(t, l, 0, 1, 0, 0, 0)
			expectAll(t, l, 1, api.OK)
		}
		sendNamed(t, l, 1)
		again := toldAgain(sent, sent+400)
		for now := sent + 1; now <= sent+400; now++ {
			l.Tick()
			want := 0
			if slices.Contains(again, now) {
				want = 1
			}
			expectState(t, l, want, 1, 1, 0, 0)
			for net := range 2 {
				for l.Way(net) > 0 {
					expect(t, "Drop", l.Drop(net, 0), api.OK)
				}
			}
		}
	}
}

// P19.2: acks end the telling, also those of what came beyond a gap.
func TestAcksEndTelling(t *testing.T) {
	l := sentAndTold(t, 4)
	expect(t, "Drop", l.Drop(0, 1), api.OK)
	expectAll(t, l, 0, api.OK, api.OK, api.OK)
	expectState(t, l, 0, 1, 4, 0, 3)
	expectPoll(t, l, 1)
	expectAll(t, l, 1, api.OK)
	l.Tick()
	// The ack told of nothing that came: all are told again.
	expectState(t, l, 4, 1, 4, 1, 2)
	expectAll(t, l, 1, api.OK)
	for range 4 {
		expect(t, "Drop", l.Drop(0, 0), api.OK)
	}
	l.Tick()
	l.Tick()
	// Of 1, 3 and 4 an ack told.
	expectState(t, l, 1, 2, 4, 1, 2)
	expectAll(t, l, 0, api.OK)
	expectPoll(t, l, 2, 3, 4)
	expectState(t, l, 0, 2, 4, 4, 0)
	l.Tick()
	expectAll(t, l, 1, api.OK, api.OK, api.OK)
	for range 200 {
		l.Tick()
		expectState(t, l, 0, 1, 4, 4, 0)
		expectAll(t, l, 1, api.OK)
	}
}

// deliverInOrder delivers all that is on its way to the receiver, in the order of that number, and answers how many were taken.
func deliverInOrder(t *testing.T, l *link.Link, order int) int {
	t.Helper()
	came := 0
	for n := l.Way(0); n > 0; n-- {
		switch why := l.Deliver(0, order%n); why {
		case api.OK:
			came++
		case api.ErrOld:
		default:
			t.Fatalf("Deliver: %v", why)
		}
		order /= n
	}
	return came
}

// P19.2, P19.5: loads that come in all orders of four, or of five of which one came twice, are answered in that of their sending.
func TestDeliverOrders(t *testing.T) {
	for twice := range 5 {
		for order := range 5 * 4 * 3 * 2 {
			l := sentAndTold(t, 4)
			if twice < 4 {
				expect(t, "Twice", l.Twice(0, twice), api.OK)
			}
			if came := deliverInOrder(t, l, order); came != 4 {
				t.Fatalf("%d loads came", came)
			}
			expectState(t, l, 0, 1, 4, 0, 4)
			expectPoll(t, l, 1, 2, 3, 4)
		}
	}
}

// P19.3: a datagram that came twice is taken once, also behind its being answered; an ack that came twice turns nothing.
func TestTwice(t *testing.T) {
	l := sentAndTold(t, 2)
	expect(t, "Twice", l.Twice(0, 0), api.OK)
	expect(t, "Twice", l.Twice(0, 0), api.OK)
	expect(t, "Twice", l.Twice(1, 0), api.OK)
	expectState(t, l, 4, 2, 2, 0, 0)
	// In order: 1, 2, 1, 1.
	expect(t, "2", l.Deliver(0, 1), api.OK)
	expectPoll(t, l)
	expect(t, "1", l.Deliver(0, 1), api.OK)
	expect(t, "1 that is held", l.Deliver(0, 1), api.ErrOld)
	expectPoll(t, l, 1, 2)
	expect(t, "1 that was answered", l.Deliver(0, 0), api.ErrOld)
	expectState(t, l, 0, 2, 2, 2, 0)
	expectAll(t, l, 1, api.OK, api.OK)
	expectPoll(t, l)
}

// P19.3: a datagram goes from its place, and the ones behind it move up.
func TestPlaces(t *testing.T) {
	for net := range 2 {
		l := made(t, 4, 7)
		row := [][]byte{foreign(1), {1}, framed([]byte{128}), foreign(2), {}, framed(nil), foreign(3)}
		want := []api.Errno{api.ErrKind, api.ErrSum, api.ErrForm, api.ErrKind, api.ErrSum, api.ErrForm, api.ErrKind}
		for _, b := range row {
			expect(t, "Forge", l.Forge(net, b), api.OK)
		}
		expect(t, "Deliver 2", l.Deliver(net, 2), want[2])
		want = slices.Delete(want, 2, 3)
		expect(t, "Drop 4", l.Drop(net, 4), api.OK)
		want = slices.Delete(want, 4, 5)
		expect(t, "Twice 1", l.Twice(net, 1), api.OK)
		want = append(want, want[1])
		expect(t, "Drop 0", l.Drop(net, 0), api.OK)
		want = want[1:]
		if got := []int{l.Way(net), l.Way(1 - net)}; !slices.Equal(got, []int{len(want), 0}) {
			t.Fatalf("%v on their way", got)
		}
		expect(t, "Deliver the last one", l.Deliver(net, len(want)-1), want[len(want)-1])
		expectAll(t, l, net, want[:len(want)-1]...)
	}
}

// P19.3: nets that there are not.
func TestWrongNets(t *testing.T) {
	l := sentAndTold(t, 3)
	before := stateOf(l)
	for _, net := range []int{-1, 2, -2, 3, 255, 256, 1 << 32, 1<<32 + 1, math.MinInt, math.MaxInt} {
		for _, i := range []int{0, 1, -1, 3, math.MinInt, math.MaxInt} {
			expect(t, "Deliver", l.Deliver(net, i), api.ErrArg)
			expect(t, "Drop", l.Drop(net, i), api.ErrArg)
			expect(t, "Twice", l.Twice(net, i), api.ErrArg)
			expect(t, "Turn", l.Turn(net, i, 0, 1), api.ErrArg)
			expect(t, "Turn", l.Turn(net, i, -1, 0), api.ErrArg)
		}
		for _, b := range [][]byte{nil, {1}, foreign(1), packed(api.Msg{Kind: 1, Token: 7}), make([]byte, mostFrame+1)} {
			expect(t, "Forge", l.Forge(net, b), api.ErrArg)
		}
		if n := l.Way(net); n != 0 {
			t.Fatalf("Way(%d) is %d", net, n)
		}
		if after := stateOf(l); after != before {
			t.Fatalf("%v, behind %v", after, before)
		}
	}
	expectAll(t, l, 0, times(3, api.OK)...)
	expectPoll(t, l, 1, 2, 3)
}

// P19.3, R7: places at which no datagram is: below 0, just behind the last one, and far.
func TestWrongPlaces(t *testing.T) {
	for loads := range 5 {
		l := sentAndTold(t, loads)
		before := stateOf(l)
		for net, n := range []int{loads, 1} {
			for _, i := range []int{-1, -2, -256, math.MinInt, n, n + 1, 255, 256, 257, 1 << 32, math.MaxInt} {
				expect(t, "Deliver", l.Deliver(net, i), api.ErrNone)
				expect(t, "Drop", l.Drop(net, i), api.ErrNone)
				expect(t, "Twice", l.Twice(net, i), api.ErrNone)
				expect(t, "Turn", l.Turn(net, i, 0, 1), api.ErrNone)
				expect(t, "Turn", l.Turn(net, i, -1, 0), api.ErrNone)
				if after := stateOf(l); after != before {
					t.Fatalf("%v, behind %v", after, before)
				}
			}
		}
		expectAll(t, l, 0, times(loads, api.OK)...)
		expectAll(t, l, 1, api.OK)
		expectPoll(t, l, upTo(1, loads)...)
	}
	l := made(t, 1, 7)
	for net := range 2 {
		for _, i := range []int{0, -1, 1} {
			expect(t, "Deliver", l.Deliver(net, i), api.ErrNone)
			expect(t, "Drop", l.Drop(net, i), api.ErrNone)
			expect(t, "Twice", l.Twice(net, i), api.ErrNone)
			expect(t, "Turn", l.Turn(net, i, 0, 0), api.ErrNone)
		}
	}
}

// P19.3: a dropped load is told again; a dropped ack, too.
func TestDrop(t *testing.T) {
	l := sentAndTold(t, 2)
	expect(t, "Drop", l.Drop(0, 0), api.OK)
	expect(t, "Drop", l.Drop(1, 0), api.OK)
	expectState(t, l, 1, 0, 2, 0, 0)
	expectAll(t, l, 0, api.OK)
	expectPoll(t, l)
	l.Tick()
	expectState(t, l, 2, 1, 2, 0, 1)
	expectAll(t, l, 0, api.OK, api.ErrOld)
	expectPoll(t, l, 1, 2)
}

// P19.3: a turned datagram is none, whatever bytes are turned, at whatever place; it can't be turned once more.
func TestTurn(t *testing.T) {
	c := chance(1931)
	places := append(upTo(-60, 60), math.MinInt, math.MinInt+1, math.MaxInt, math.MaxInt-1, 1<<32, -1<<32)
	for _, at := range places {
		for _, by := range []uint32{1, 1 << 7, 1 << 8, 1 << 16, 1 << 24, 1 << 31, 0xFF, 0xFF000000, 0xFFFFFFFF, uint32(c.next()) | 1} {
			l := sentAndTold(t, 2)
			for net := range 2 {
				expect(t, "Turn", l.Turn(net, 0, at, by), api.OK)
				for _, more := range []uint32{by, 0, 1} {
					expect(t, "a spoilt one", l.Turn(net, 0, at, more), api.ErrState)
				}
			}
			expectState(t, l, 2, 1, 2, 0, 0)
			expectAll(t, l, 0, api.ErrSum, api.OK)
			expectAll(t, l, 1, api.ErrSum)
			expectState(t, l, 0, 0, 2, 0, 1)
			expectPoll(t, l)
		}
	}
}

// P19.3: a datagram that was turned by 0 is as it was, and may be turned again.
func TestTurnByNothing(t *testing.T) {
	for _, at := range []int{0, 1, -1, 1000, math.MinInt, math.MaxInt} {
		l := sentAndTold(t, 2)
		for range 3 {
			expect(t, "Turn by 0", l.Turn(0, 0, at, 0), api.OK)
			expect(t, "Turn by 0", l.Turn(1, 0, at, 0), api.OK)
			expect(t, "Turn by 0", l.Turn(0, 1, at, 0), api.OK)
		}
		expect(t, "Turn", l.Turn(0, 1, at, 1), api.OK)
		expectAll(t, l, 0, api.OK, api.ErrSum)
		expectAll(t, l, 1, api.OK)
		expectPoll(t, l, 1)
	}
}

// P19.3: one of two alike is turned, the other stays; another one like a spoilt one is spoilt.
func TestTurnAndTwice(t *testing.T) {
	for turned := range 2 {
		l := sentAndTold(t, 1)
		for net := range 2 {
			expect(t, "Twice", l.Twice(net, 0), api.OK)
			expect(t, "Turn", l.Turn(net, turned, 5, 0x01020304), api.OK)
			expect(t, "Turn", l.Turn(net, 1-turned, 5, 0), api.OK)
			want := []api.Errno{api.OK, api.OK}
			want[turned] = api.ErrSum
			expectAll(t, l, net, want...)
		}
		expectPoll(t, l, 1)
	}
	l := sentAndTold(t, 1)
	expect(t, "Turn", l.Turn(0, 0, 0, 1), api.OK)
	expect(t, "Twice", l.Twice(0, 0), api.OK)
	expect(t, "Twice", l.Twice(0, 1), api.OK)
	for i := range 3 {
		for _, by := range []uint32{0, 1} {
			expect(t, "Turn", l.Turn(0, i, 0, by), api.ErrState)
		}
	}
	expectAll(t, l, 0, times(3, api.ErrSum)...)
	expectPoll(t, l)
}

// P19.3: forged bytes come to what Unpack says of them, or are of another token: of any Kind and Epoch.
func TestForge(t *testing.T) {
	long := packed(api.Msg{Kind: 1, Token: 8, Load: make([]byte, mostLoad-8)})
	if len(long) != mostFrame {
		t.Fatalf("the longest frame has %d bytes", len(long))
	}
	list := []struct {
		b   []byte
		why api.Errno
	}{
		{nil, api.ErrSum}, {[]byte{}, api.ErrSum}, {[]byte{165, 90}, api.ErrSum}, {make([]byte, mostFrame), api.ErrSum},
		{append(foreign(1), 0), api.ErrSum}, {append(foreign(1), foreign(2)...), api.ErrSum}, {foreign(1)[1:], api.ErrSum},
		{framed(nil), api.ErrForm}, {framed([]byte{1, 7, 1, 1, 0, 0, 0}), api.ErrForm}, {framed([]byte{1, 7, 1, 1, 0, 0, 0, 3}), api.ErrForm},
		{framed([]byte{0, 8, 1, 1, 0, 0, 0, 0}), api.ErrForm}, {framed(make([]byte, mostLoad)), api.ErrForm},
		{foreign(1), api.ErrKind}, {long, api.ErrKind}, {packed(api.Msg{Kind: 2, Token: 8, Epoch: 1}), api.ErrKind},
		{packed(api.Msg{Kind: 1, Token: 6, Epoch: 9}), api.ErrKind}, {packed(api.Msg{Kind: 2, Epoch: 1}), api.ErrKind},
		{packed(api.Msg{Kind: 7, Token: math.MaxUint64, Epoch: mostNumber}), api.ErrKind},
	}
	l := sentAndTold(t, 2)
	for net := range 2 {
		for _, one := range list {
			expect(t, "Forge", l.Forge(net, one.b), api.OK)
			last := l.Way(net) - 1
			for _, by := range []uint32{0, 1} {
				expect(t, "a forged one", l.Turn(net, last, 0, by), api.ErrState)
			}
			expect(t, "Twice", l.Twice(net, last), api.OK)
			expect(t, "a forged one, twice", l.Turn(net, last+1, 0, 0), api.ErrState)
			for range 2 {
				if why := l.Deliver(net, last); why != one.why {
					t.Fatalf("Deliver of %v is %v: not %v", one.b, why, one.why)
				}
			}
		}
	}
	expectState(t, l, 2, 1, 2, 0, 0)
	expectAll(t, l, 0, api.OK, api.OK)
	expectPoll(t, l, 1, 2)
}

// P19.3, R7: bytes that nobody can forge: too many, and datagrams of the link's token, of whatever Kind and Epoch; they turn nothing.
func TestForgeRefused(t *testing.T) {
	for _, token := range []uint64{0, 1, 7, math.MaxUint64} {
		l := made(t, 2, token)
		for net := range 2 {
			for _, n := range []int{mostFrame + 1, mostFrame + 2, 4096, 1 << 20} {
				expect(t, "too many", l.Forge(net, make([]byte, n)), api.ErrMany)
			}
			own := api.Msg{Kind: 1, Token: token, Epoch: 1, Seq: 1, Load: []byte("x")}
			expect(t, "too many, of the token", l.Forge(net, append(packed(own), make([]byte, mostFrame)...)), api.ErrMany)
			for kind := 1; kind <= 7; kind++ {
				for epoch := range 3 {
					own.Kind, own.Epoch = kind, epoch
					expect(t, "of the token", l.Forge(net, packed(own)), api.ErrArg)
				}
			}
			own.Load = nil
			own.Load = make([]byte, mostLoad-len(told(own)))
			expect(t, "just MaxFrame bytes, of the token", l.Forge(net, packed(own)), api.ErrArg)
			expectState(t, l, 0, 0, 0, 0, 0)
			// What is no datagram has no token.
			expect(t, "no datagram", l.Forge(net, append(packed(own)[:100], 0)), api.OK)
			expect(t, "Deliver", l.Deliver(net, 0), api.ErrSum)
			expect(t, "no numbers", l.Forge(net, framed(nil)), api.OK)
			expect(t, "Deliver", l.Deliver(net, 0), api.ErrForm)
			own.Token++
			expect(t, "of another token", l.Forge(net, packed(own)), api.OK)
			expect(t, "Deliver", l.Deliver(net, 0), api.ErrKind)
		}
	}
}

// P19.3: a net that has 255 datagrams has room for one more; what comes into one that has 256 is lost.
func TestFullNets(t *testing.T) {
	l := made(t, 4, 7)
	sendNamed(t, l, 1, 2)
	forgeAll(t, l, 0, mostOnWay-1)
	forgeAll(t, l, 1, mostOnWay-1)
	expectState(t, l, mostOnWay-1, mostOnWay-1, 2, 0, 0)
	l.Tick()
	// Of two loads the first one has room.
	expectState(t, l, mostOnWay, mostOnWay, 2, 0, 0)
	expect(t, "Forge into a full net", l.Forge(0, []byte{1}), api.OK)
	expect(t, "Twice into a full net", l.Twice(0, 0), api.OK)
	expect(t, "Forge into a full net", l.Forge(1, []byte{1}), api.OK)
	expect(t, "Twice into a full net", l.Twice(1, mostOnWay-1), api.OK)
	l.Tick()
	expectState(t, l, mostOnWay, mostOnWay, 2, 0, 0)
	expect(t, "what may not be forged", l.Forge(0, packed(api.Msg{Kind: 1, Token: 7})), api.ErrArg)
	expect(t, "behind the last one", l.Deliver(0, mostOnWay), api.ErrNone)
	expectAll(t, l, 0, append(times(mostOnWay-1, api.ErrKind), api.OK)...)
	expectAll(t, l, 1, append(times(mostOnWay-1, api.ErrKind), api.OK)...)
	expectPoll(t, l, 1)
	expectState(t, l, 0, 0, 2, 1, 0)
	l.Tick()
	l.Tick()
	// 2 was told in the tick 2, and lost; so it is told in the tick 4.
	expectState(t, l, 2, 2, 2, 1, 0)
	expectAll(t, l, 0, api.ErrOld, api.OK)
	expectPoll(t, l, 2)
}

// P19.3: the last place of a full net can be reached, and what goes leaves room for one.
func TestFullNetsGoOn(t *testing.T) {
	for net := range 2 {
		l := made(t, 1, 7)
		forgeAll(t, l, net, mostOnWay)
		for i := range mostOnWay {
			expect(t, "Deliver", l.Deliver(net, mostOnWay-1), api.ErrKind)
			expect(t, "no such place", l.Drop(net, mostOnWay-1), api.ErrNone)
			expect(t, "Twice", l.Twice(net, i%(mostOnWay-1)), api.OK)
			expect(t, "Drop", l.Drop(net, 0), api.OK)
			expect(t, "Forge", l.Forge(net, []byte{byte(i)}), api.OK)
			expect(t, "Forge into a full net", l.Forge(net, framed(nil)), api.OK)
			expect(t, "Deliver", l.Deliver(net, mostOnWay-1), api.ErrSum)
			expect(t, "Forge", l.Forge(net, foreign(1)), api.OK)
		}
		expectAll(t, l, net, times(mostOnWay, api.ErrKind)...)
	}
}

// P19.4: a link that is begun anew tells all that did not come again in the next tick; datagrams of before are old.
func TestReconnect(t *testing.T) {
	l := sentAndTold(t, 4)
	expect(t, "Deliver 1", l.Deliver(0, 0), api.OK)
	expect(t, "Deliver 3", l.Deliver(0, 1), api.OK)
	l.Reconnect()
	expectState(t, l, 2, 1, 4, 0, 2)
	expectAll(t, l, 0, api.ErrOld, api.ErrOld)
	expectAll(t, l, 1, api.ErrOld)
	expectState(t, l, 0, 0, 4, 0, 2)
	l.Tick()
	// Of 1 the receiver told anew, of 3, beyond a gap, not.
	expectState(t, l, 3, 1, 4, 0, 2)
	expectAll(t, l, 0, api.OK, api.ErrOld, api.OK)
	expectPoll(t, l, 1, 2, 3, 4)
	expectAll(t, l, 1, api.OK)
	l.Tick()
	// The first ack of the new epoch told of 1 and 3: 2 and 4 are told again.
	expectState(t, l, 2, 1, 4, 4, 0)
	expectAll(t, l, 1, api.OK)
	sendNamed(t, l, 5, 6, 7, 8)
	expect(t, "a full window", l.Send(nil), api.ErrWait)
}

// P19.4: the waits begin anew, at the link's time; and without a tick nothing is told.
func TestReconnectTellsAgain(t *testing.T) {
	for _, ticks := range []int{0, 1, 3, 40, 100} {
		l := made(t, 3, 7)
		sendNamed(t, l, 1, 2)
		for range ticks {
			l.Tick()
			for l.Way(0) > 0 {
				l.Drop(0, 0)
			}
		}
		l.Reconnect()
		expectState(t, l, 0, ticks, 2, 0, 0)
		again := toldAgain(ticks, ticks+150)
		for now := ticks + 1; now <= ticks+150; now++ {
			l.Tick()
			want := 0
			if slices.Contains(again, now) {
				want = 2
			}
			if l.Way(0) != want {
				t.Fatalf("begun anew at %d: %d told at %d", ticks, l.Way(0), now)
			}
			for l.Way(0) > 0 {
				l.Drop(0, 0)
			}
		}
	}
}

// P19.4: acks that were lost are not needed: a link that is begun anew knows what came and was answered, and has room again.
func TestReconnectAcksLost(t *testing.T) {
	for window := 1; window <= mostWindow; window++ {
		l := made(t, window, 7)
		for n := 1; n <= 3*window; n++ {
			sendNamed(t, l, n)
			l.Tick()
			for l.Deliver(0, l.Way(0)-1) == api.OK {
			}
			expectPoll(t, l, n)
			for l.Way(0) > 0 {
				expect(t, "Deliver", l.Deliver(0, 0), api.ErrOld)
			}
			expect(t, "Drop", l.Drop(1, 0), api.OK)
			if n%window == 0 {
				expect(t, "all acks were lost", l.Send(nil), api.ErrWait)
				l.Reconnect()
			}
		}
		expectState(t, l, 0, 0, 3*window, 3*window, 0)
		l.Tick()
		expectState(t, l, 0, 1, 3*window, 3*window, 0)
	}
}

// P19.3, P19.4: of some epochs' datagrams only those of the last one are taken.
func TestManyEpochs(t *testing.T) {
	l := made(t, 5, 7)
	sendNamed(t, l, upTo(1, 5)...)
	for epoch := 1; epoch <= 8; epoch++ {
		l.Tick()
		expectState(t, l, 5*epoch, epoch, 5, 0, 0)
		l.Reconnect()
	}
	l.Tick()
	expectAll(t, l, 0, append(times(40, api.ErrOld), times(5, api.OK)...)...)
	expectAll(t, l, 1, append(times(8, api.ErrOld), api.OK)...)
	expectPoll(t, l, upTo(1, 5)...)
}

// P19.3: an ack of an earlier epoch turns nothing, though it tells of more room than the sender knows of.
func TestOldAck(t *testing.T) {
	l := sentAndTold(t, 4)
	expectAll(t, l, 0, times(4, api.OK)...)
	expect(t, "Drop", l.Drop(1, 0), api.OK)
	l.Reconnect()
	expectPoll(t, l, 1, 2, 3, 4)
	l.Tick()
	l.Reconnect()
	sendNamed(t, l, 5, 6, 7, 8)
	expectAll(t, l, 1, api.ErrOld)
	expect(t, "a full window", l.Send(nil), api.ErrWait)

	l = sentAndTold(t, 1)
	l.Tick()
	expectAll(t, l, 0, api.OK, api.ErrOld)
	l.Tick()
	l.Reconnect()
	expectAll(t, l, 1, times(3, api.ErrOld)...)
	expectPoll(t, l, 1)
}

// P19.4: the counts along a way.
func TestCounts(t *testing.T) {
	l := made(t, 3, 7)
	sendNamed(t, l, 1, 2, 3)
	expectState(t, l, 0, 0, 3, 0, 0)
	expect(t, "a full window", l.Send(nil), api.ErrWait)
	expectState(t, l, 0, 0, 3, 0, 0)
	l.Tick()
	expectState(t, l, 3, 1, 3, 0, 0)
	expect(t, "Deliver 3", l.Deliver(0, 2), api.OK)
	expectState(t, l, 2, 1, 3, 0, 1)
	expectPoll(t, l)
	expectState(t, l, 2, 1, 3, 0, 1)
	expect(t, "Deliver 1", l.Deliver(0, 0), api.OK)
	expectState(t, l, 1, 1, 3, 0, 2)
	expectPoll(t, l, 1)
	expectState(t, l, 1, 1, 3, 1, 1)
	expect(t, "Deliver 2", l.Deliver(0, 0), api.OK)
	expectPoll(t, l, 2, 3)
	expectState(t, l, 0, 1, 3, 3, 0)
}

// P19.4, R5: a nil link and one that New did not give, at each method, in any order, at right and wrong arguments.
func TestNotMade(t *testing.T) {
	for _, l := range []*link.Link{nil, {}, new(link.Link)} {
		for range 3 {
			for _, load := range [][]byte{nil, {}, named(1), make([]byte, mostSent), make([]byte, mostSent+1)} {
				expect(t, "Send", l.Send(load), api.ErrNil)
			}
			expectPoll(t, l)
			l.Tick()
			for _, net := range []int{0, 1, -1, 2, math.MinInt, math.MaxInt} {
				for _, i := range []int{0, 1, -1, mostOnWay} {
					expect(t, "Deliver", l.Deliver(net, i), api.ErrNil)
					expect(t, "Drop", l.Drop(net, i), api.ErrNil)
					expect(t, "Twice", l.Twice(net, i), api.ErrNil)
					expect(t, "Turn", l.Turn(net, i, 0, 0), api.ErrNil)
					expect(t, "Turn", l.Turn(net, i, -1, 1), api.ErrNil)
				}
				for _, b := range [][]byte{nil, foreign(1), packed(api.Msg{Kind: 1}), make([]byte, mostFrame+1)} {
					expect(t, "Forge", l.Forge(net, b), api.ErrNil)
				}
				if n := l.Way(net); n != 0 {
					t.Fatalf("Way(%d) is %d", net, n)
				}
			}
			l.Reconnect()
			expectState(t, l, 0, 0, 0, 0, 0)
		}
	}
}

// R1: a link that was copied as a struct does not panic, in whatever order both are called.
func TestCopiedLink(t *testing.T) {
	l := sentAndTold(t, 4)
	copied := *l
	for range 3 {
		expect(t, "Deliver", l.Deliver(0, 0), api.OK)
	}
	for net := range 2 {
		for n := copied.Way(net) - 1; n >= 0; n-- {
			copied.Turn(net, n, -1, 1)
			copied.Twice(net, n)
		}
	}
	copied.Reconnect()
	copied.Tick()
	l.Tick()
	for net := range 2 {
		deliverAll(l, net)
		deliverAll(&copied, net)
	}
	expectPoll(t, l, 1, 2, 3, 4)
}

// R4: loads that were sent, bytes that were forged, and answers of Poll may be written over: that turns nothing, nor is anything written into what was handed in.
func TestNothingKept(t *testing.T) {
	l := made(t, 4, 7)
	load := []byte("load 1load 2load 3")
	kept := slices.Clone(load)
	for i := range 3 {
		expect(t, "Send", l.Send(load[6*i:6*i+6]), api.OK)
	}
	b := append(foreign(1), foreign(2)...)
	wanted := slices.Clone(b)
	half := len(b) / 2
	expect(t, "Forge", l.Forge(0, b[:half]), api.OK)
	expect(t, "Forge", l.Forge(1, b[:half]), api.OK)
	expect(t, "Twice", l.Twice(0, 0), api.OK)
	l.Tick()
	if !bytes.Equal(load, kept) || !bytes.Equal(b, wanted) {
		t.Fatal("a call wrote into what it was handed")
	}
	overwrite(load)
	overwrite(b)
	l.Reconnect()
	l.Tick()
	expectAll(t, l, 0, api.ErrKind, api.ErrKind, api.ErrOld, api.ErrOld, api.ErrOld, api.OK, api.OK, api.OK)
	expectAll(t, l, 1, api.ErrKind, api.ErrOld, api.OK)
	expectPoll(t, l, 1, 2, 3)
	if !bytes.Equal(load, bytes.Repeat([]byte{'#'}, len(load))) {
		t.Fatal("a call wrote into what it was handed")
	}
}

// R4: answers of Poll that are written over turn no load that is told again, on its way, or held.
func TestAnswersApart(t *testing.T) {
	l := made(t, 2, 7)
	for n := 1; n <= 100; n++ {
		sendNamed(t, l, n)
		l.Tick()
		expect(t, "Twice", l.Twice(0, 0), api.OK)
		expect(t, "Deliver", l.Deliver(0, 0), api.OK)
		load, ok := l.Poll()
		if !ok || !bytes.Equal(load, named(n)) {
			t.Fatalf("Poll is %q, %v", load, ok)
		}
		overwrite(load)
		expect(t, "the same once more", l.Deliver(0, 0), api.ErrOld)
		l.Tick()
		for range l.Way(0) {
			expect(t, "told again", l.Deliver(0, 0), api.ErrOld)
		}
		deliverAll(l, 1)
		expectPoll(t, l)
	}
}

// R3, R4: two links are apart, also with one token: what is told of one is nothing to the other.
func TestLinksApart(t *testing.T) {
	one, two := made(t, 2, 7), made(t, 3, 7)
	sendNamed(t, one, 1, 2)
	one.Tick()
	expectState(t, two, 0, 0, 0, 0, 0)
	sendNamed(t, two, 1)
	two.Tick()
	two.Tick()
	expectAll(t, one, 0, api.OK, api.OK)
	expectPoll(t, one, 1, 2)
	expectState(t, two, 2, 2, 1, 0, 0)
	one.Reconnect()
	expectAll(t, two, 0, api.OK, api.ErrOld)
	expectPoll(t, two, 1)
}
