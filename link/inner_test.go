package link

import (
	"bytes"
	"math"
	"slices"
	"testing"

	"gantline/api"
)

// These tests look at, or put, what no call of a link tells or takes: the bytes on their way, datagrams of the link's own token, and the last ticks.

func innerLink(t *testing.T, window, loads int) *Link {
	t.Helper()
	l, why := New(window, 7)
	if why != api.OK {
		t.Fatal(why)
	}
	for i := range loads {
		if why := l.Send([]byte{'a' + byte(i)}); why != api.OK {
			t.Fatal(why)
		}
	}
	return l
}

// putMsg puts a datagram behind all that are on their way in a net, and answers where it is.
func putMsg(t *testing.T, l *Link, net int, m api.Msg) int {
	t.Helper()
	b, why := Pack(m)
	if why != api.OK {
		t.Fatal(why)
	}
	l.nets[net].put(datagram{bytes: b})
	return l.Way(net) - 1
}

// expectWay wants just these messages to be on their way in a net, none of them spoilt.
func expectWay(t *testing.T, l *Link, net int, want ...api.Msg) {
	t.Helper()
	if l.Way(net) != len(want) {
		t.Fatalf("%d are on their way in net %d: not %d", l.Way(net), net, len(want))
	}
	for i, m := range want {
		b, _ := Pack(m)
		if one := l.nets[net].row[i]; !bytes.Equal(one.bytes, b) || one.spoilt {
			t.Fatalf("%d in net %d: %v, not %v", i, net, one, b)
		}
	}
}

// P19.2: what a Tick tells: loads in order, then an ack, each with the token and the epoch, all else zero.
func TestTickTells(t *testing.T) {
	l := innerLink(t, 3, 2)
	l.Tick()
	one := api.Msg{Kind: 1, Token: 7, Epoch: 1, Seq: 1, Load: []byte("a")}
	two := api.Msg{Kind: 1, Token: 7, Epoch: 1, Seq: 2, Load: []byte("b")}
	ack := api.Msg{Kind: 2, Token: 7, Epoch: 1, Credit: 3}
	expectWay(t, l, 0, one, two)
	expectWay(t, l, 1, ack)
	l.Deliver(0, 1)
	l.Tick()
	beyond := api.Msg{Kind: 2, Token: 7, Epoch: 1, Bits: 1, Credit: 3}
	expectWay(t, l, 0, one, one, two)
	expectWay(t, l, 1, ack, beyond)
	l.Deliver(0, 0)
	l.Poll()
	l.Reconnect()
	l.Tick()
	behind := api.Msg{Kind: 2, Token: 7, Epoch: 2, Ack: 2, Credit: 4}
	expectWay(t, l, 0, one, two)
	expectWay(t, l, 1, ack, beyond, behind)
}

// P19.2: time goes on up to 2^40 ticks; then a Tick does nothing, and all else goes on.
func TestLastTicks(t *testing.T) {
	l := innerLink(t, 2, 0)
	l.time = 1<<40 - 2
	if why := l.Send([]byte("a")); why != api.OK {
		t.Fatal(why)
	}
	for i, want := range []int{1, 2, 2, 2, 2} {
		l.Tick()
		if l.Way(0) != want || l.Way(1) != want || l.time != min(1<<40-1+i, 1<<40) {
			t.Fatalf("%d ticks: %d, %d on their way, at %d", i+1, l.Way(0), l.Way(1), l.time)
		}
	}
	if why := l.Send([]byte("b")); why != api.OK {
		t.Fatalf("a Send at the last time: %v", why)
	}
	l.Tick()
	if l.Way(0) != 2 || l.Deliver(0, 0) != api.OK || l.Deliver(1, 0) != api.OK {
		t.Fatal("not what was on its way")
	}
	if load, ok := l.Poll(); string(load) != "a" || !ok {
		t.Fatalf("%q, %v", load, ok)
	}
	l.Reconnect()
	if l.epoch != 2 || l.Deliver(0, 0) != api.ErrOld {
		t.Fatal("not begun anew")
	}
}

// P19.3: which bytes are turned, and by which: at each place, also places that are modulo how many bytes there are, less 3.
func TestTurnedBytes(t *testing.T) {
	whole, _ := Pack(api.Msg{Kind: 1, Token: 7, Epoch: 1, Seq: 1, Load: []byte("a")})
	places := len(whole) - 3
	for at := -3 * places; at <= 3*places; at++ {
		expectTurned(t, whole, at, ((at+3*places)%places+places)%places)
	}
	for _, far := range []int{places << 40, -places << 40} {
		expectTurned(t, whole, far, 0)
		expectTurned(t, whole, far-1, places-1)
		expectTurned(t, whole, far+1, 1)
	}
	expectTurned(t, whole, math.MaxInt, math.MaxInt%places)
	// 2^63 is one more than MaxInt.
	expectTurned(t, whole, math.MinInt, places-1-math.MaxInt%places)
}

// expectTurned turns the bytes of a datagram, and wants those from a place on to be turned.
func expectTurned(t *testing.T, whole []byte, at, place int) {
	t.Helper()
	want := slices.Clone(whole)
	for i, x := range []byte{0x04, 0x03, 0x02, 0x81} {
		want[place+i] ^= x
	}
	l := innerLink(t, 1, 1)
	l.Tick()
	if why := l.Turn(0, 0, at, 0x81020304); why != api.OK {
		t.Fatal(why)
	}
	if one := l.nets[0].row[0]; !bytes.Equal(one.bytes, want) || !one.spoilt {
		t.Fatalf("Turn at %d: %v, not %v", at, one, want)
	}
}

// P19.3, R7: datagrams of the token that no end takes, in the order of the errors; each goes, and nothing else turns.
func TestDeliverRefused(t *testing.T) {
	list := []struct {
		net int
		m   api.Msg
		why api.Errno
	}{
		// The token is ahead of the epoch, and so is the kind.
		{0, api.Msg{Kind: 1, Token: 8, Epoch: 3, Seq: 1}, api.ErrKind},
		{1, api.Msg{Kind: 2, Token: 8, Epoch: 3, Ack: 1}, api.ErrKind},
		{0, api.Msg{Kind: 2, Token: 7, Epoch: 2, Seq: 1}, api.ErrKind},
		{1, api.Msg{Kind: 1, Token: 7, Epoch: 3, Ack: 1}, api.ErrKind},
		// An earlier epoch, and later ones; these are ahead of the end's errors.
		{0, api.Msg{Kind: 1, Token: 7, Epoch: 1, Seq: 1}, api.ErrOld},
		{0, api.Msg{Kind: 1, Token: 7, Epoch: 3, Seq: 1}, api.ErrOld},
		{0, api.Msg{Kind: 1, Token: 7, Epoch: 0, Seq: 99}, api.ErrOld},
		{0, api.Msg{Kind: 1, Token: 7, Epoch: 1 << 62, Seq: 0}, api.ErrOld},
		{1, api.Msg{Kind: 2, Token: 7, Epoch: 1, Ack: 1}, api.ErrOld},
		{1, api.Msg{Kind: 2, Token: 7, Epoch: 3, Ack: 99}, api.ErrOld},
		{1, api.Msg{Kind: 2, Token: 7, Epoch: 1 << 62, Credit: 1 << 62}, api.ErrOld},
		// What the ends say.
		{0, api.Msg{Kind: 1, Token: 7, Epoch: 2, Seq: 0}, api.ErrArg},
		{0, api.Msg{Kind: 1, Token: 7, Epoch: 2, Seq: 4}, api.ErrWait},
		{0, api.Msg{Kind: 1, Token: 7, Epoch: 2, Seq: 1 << 62}, api.ErrWait},
		{0, api.Msg{Kind: 1, Token: 7, Epoch: 2, Seq: 2}, api.ErrOld},
		{1, api.Msg{Kind: 2, Token: 7, Epoch: 2, Ack: 4, Credit: 9}, api.ErrArg},
		{1, api.Msg{Kind: 2, Token: 7, Epoch: 2, Ack: 1 << 62, Credit: 9}, api.ErrArg},
	}
	for kind := 3; kind <= 7; kind++ {
		for net := range 2 {
			list = append(list, struct {
				net int
				m   api.Msg
				why api.Errno
			}{net, api.Msg{Kind: kind, Token: 7, Epoch: 2, Seq: 1, Ack: 1}, api.ErrKind})
		}
	}
	for _, one := range list {
		expectRefused(t, one.net, one.m, one.why)
	}
}

// expectRefused delivers a datagram of a link in its second epoch, of whose three loads the second came, and wants all to come as if it had not been.
func expectRefused(t *testing.T, net int, m api.Msg, want api.Errno) {
	t.Helper()
	l := innerLink(t, 3, 3)
	l.Reconnect()
	l.Tick()
	l.Deliver(0, 1)
	i := putMsg(t, l, net, m)
	if why := l.Deliver(net, i); why != want {
		t.Fatalf("Deliver of %+v is %v: not %v", m, why, want)
	}
	if l.Way(0) != 2 || l.Way(1) != 1 || l.Held() != 1 || l.Send(nil) != api.ErrWait {
		t.Fatalf("%+v: %d, %d on their way, %d held", m, l.Way(0), l.Way(1), l.Held())
	}
	for l.Way(0) > 0 {
		if why := l.Deliver(0, 0); why != api.OK {
			t.Fatalf("behind %+v: %v", m, why)
		}
	}
	for _, want := range []string{"a", "b", "c"} {
		if load, ok := l.Poll(); string(load) != want || !ok {
			t.Fatalf("behind %+v: %q, %v", m, load, ok)
		}
	}
	// No ack was taken: all three are told again.
	l.Tick()
	if l.Way(0) != 3 {
		t.Fatalf("behind %+v: %d are told", m, l.Way(0))
	}
}

// P19.3: a datagram's Format, and the numbers that its Kind does not need, are not asked for.
func TestDeliverOtherNumbers(t *testing.T) {
	l := innerLink(t, 2, 1)
	l.Deliver(0, putMsg(t, l, 0, api.Msg{Kind: 1, Token: 7, Epoch: 1, Seq: 1, Ack: 99, Bits: 9, Credit: 1 << 62, Format: 2, Load: []byte("x")}))
	if load, ok := l.Poll(); string(load) != "x" || !ok {
		t.Fatalf("%q, %v", load, ok)
	}
	if why := l.Deliver(1, putMsg(t, l, 1, api.Msg{Kind: 2, Token: 7, Epoch: 1, Seq: 99, Ack: 1, Credit: 3, Format: 1, Load: []byte("x")})); why != api.OK {
		t.Fatal(why)
	}
	if l.Tick(); l.Way(0) != 0 {
		t.Fatalf("%d are told", l.Way(0))
	}
}

// P19.3: what goes from a net is not kept there.
func TestNothingStays(t *testing.T) {
	l := innerLink(t, 2, 2)
	l.Tick()
	l.Drop(0, 0)
	l.Deliver(0, 0)
	for _, one := range l.nets[0].row {
		if one.bytes != nil || one.spoilt {
			t.Fatalf("%v", one)
		}
	}
}
