package send_test

import (
	"bytes"
	"fmt"
	"slices"
	"testing"

	"gantline/api"
	"gantline/send"
)

// The document's bounds, as numbers of their own.
const (
	mostWindow = 32
	mostLoad   = 1200
	mostTime   = 1099511627776
	mostCredit = 4611686018427387904
	mostBack   = 64
)

// What the document says of a load.
const (
	isOut = iota
	isThere
	isDone
)

// modelLoad is a load that was pushed at some time, done or not.
type modelLoad struct {
	load       []byte
	state      int
	time, wait int
}

// model is the document's sender: it keeps all loads that ever were pushed, number n at the place n - 1.
type model struct {
	window, limit int
	loads         []modelLoad
}

func (m *model) last() int { return len(m.loads) }

// base is the number behind all that are done in a row.
func (m *model) base() int {
	n := 1
	for n <= m.last() && m.loads[n-1].state == isDone {
		n++
	}
	return n
}

func (m *model) out() int {
	n := 0
	for _, l := range m.loads {
		if l.state != isDone {
			n++
		}
	}
	return n
}

func between(n, least, most int) bool { return least <= n && n <= most }

func (m *model) push(load []byte, now int) (int, api.Errno) {
	if !between(now, 0, mostTime) {
		return 0, api.ErrArg
	}
	if len(load) > mostLoad {
		return 0, api.ErrMany
	}
	number := m.last() + 1
	if number > m.limit || number >= m.base()+m.window {
		return 0, api.ErrWait
	}
	m.loads = append(m.loads, modelLoad{load: slices.Clone(load), state: isOut, time: now, wait: 1})
	return number, api.OK
}

func (m *model) due(now int) []api.Msg {
	var told []api.Msg
	if !between(now, 0, mostTime) {
		return nil
	}
	for i := range m.loads {
		l := &m.loads[i]
		if l.state != isOut || l.time > now {
			continue
		}
		told = append(told, api.Msg{Kind: 1, Seq: i + 1, Load: slices.Clone(l.load)})
		l.time = now + l.wait
		l.wait *= 2
		if l.wait > mostBack {
			l.wait = mostBack
		}
	}
	return told
}

// finish ends all loads up to a number.
func (m *model) finish(last int) {
	for i := range last {
		m.loads[i].state = isDone
	}
}

func (m *model) ack(ack int, bits uint64, credit int) api.Errno {
	if !between(ack, 0, m.last()) || !between(credit, 0, mostCredit) {
		return api.ErrArg
	}
	m.finish(ack)
	for n := ack + 2; n <= m.last() && n < ack+66; n++ {
		if bits&(1<<(n-ack-2)) != 0 && m.loads[n-1].state == isOut {
			m.loads[n-1].state = isThere
		}
	}
	if credit > m.limit {
		m.limit = credit
	}
	for i := range m.loads {
		if m.loads[i].state == isOut {
			break
		}
		m.loads[i].state = isDone
	}
	return api.OK
}

func (m *model) resume(ack, credit, now int) api.Errno {
	if !between(now, 0, mostTime) || !between(ack, 0, m.last()) || !between(credit, 0, mostCredit) {
		return api.ErrArg
	}
	m.finish(ack)
	for i := range m.loads {
		if l := &m.loads[i]; l.state != isDone {
			l.state, l.time, l.wait = isOut, now, 1
		}
	}
	m.limit = m.last()
	if credit >= m.last() {
		m.limit = credit
	}
	return api.OK
}

// both is a sender and its model, which are called alike.
type both struct {
	t    *testing.T
	s    *send.Sender
	m    *model
	done []call
}

// call is one that was done: told in words only where one is wrong, since there are many.
type call struct {
	format string
	args   []any
}

func (c call) String() string { return fmt.Sprintf(c.format, c.args...) }

func newBoth(t *testing.T, window int) *both {
	return &both{t: t, s: made(t, window), m: &model{window: window}}
}

func (b *both) fail(format string, args ...any) {
	b.t.Fatalf("window %d, %v: %s", b.m.window, b.done, fmt.Sprintf(format, args...))
}

func (b *both) note(format string, args ...any) {
	b.done = append(b.done, call{format, args})
}

// hold holds what the sender tells of itself against the model, and P17.6.
func (b *both) hold() {
	got := []int{b.s.Out(), b.s.Base(), b.s.Next(), b.s.Limit()}
	want := []int{b.m.out(), b.m.base(), b.m.last() + 1, b.m.limit}
	if !slices.Equal(got, want) {
		b.fail("Out, Base, Next, Limit are %v: not %v", got, want)
	}
	if got[0] > b.m.window || got[0] != got[2]-got[1] || got[2]-1 > got[3] {
		b.fail("Out, Base, Next, Limit are %v", got)
	}
}

func (b *both) push(load []byte, now int) api.Errno {
	b.note("Push(%d bytes, %d)", len(load), now)
	number, why := b.s.Push(load, now)
	wantNumber, want := b.m.push(load, now)
	if number != wantNumber || why != want {
		b.fail("%d, %v: not %d, %v", number, why, wantNumber, want)
	}
	b.hold()
	return why
}

func (b *both) due(now int) []api.Msg {
	b.note("Due(%d)", now)
	got, want := b.s.Due(now), b.m.due(now)
	if !sameMsgs(got, want) {
		b.fail("%v: not %v", numbers(got), numbers(want))
	}
	b.hold()
	return got
}

func (b *both) ack(ack int, bits uint64, credit int) api.Errno {
	b.note("Ack(%d, %b, %d)", ack, bits, credit)
	why, want := b.s.Ack(ack, bits, credit), b.m.ack(ack, bits, credit)
	if why != want {
		b.fail("%v: not %v", why, want)
	}
	b.hold()
	return why
}

func (b *both) resume(ack, credit, now int) api.Errno {
	b.note("Resume(%d, %d, %d)", ack, credit, now)
	why, want := b.s.Resume(ack, credit, now), b.m.resume(ack, credit, now)
	if why != want {
		b.fail("%v: not %v", why, want)
	}
	b.hold()
	return why
}

// made is a sender that New gave.
func made(t *testing.T, window int) *send.Sender {
	t.Helper()
	s, why := send.New(window)
	if s == nil || why != api.OK {
		t.Fatalf("New(%d) is %v, %v", window, s, why)
	}
	return s
}

// pushedAt is a sender of a window and a limit, with so many loads pushed at a time, each named by its number.
func pushedAt(t *testing.T, window, limit, loads, now int) *send.Sender {
	t.Helper()
	s := made(t, window)
	expectErrno(t, "the first Ack", s.Ack(0, 0, limit), api.OK)
	for i := range loads {
		expectPush(t, s, named(i+1), now, i+1, api.OK)
	}
	return s
}

// named is the load that tests push under a number.
func named(number int) []byte { return fmt.Appendf(nil, "load %d", number) }

// data are the datagrams of loads that are named by their numbers.
func data(numbers ...int) []api.Msg {
	var told []api.Msg
	for _, n := range numbers {
		told = append(told, api.Msg{Kind: 1, Seq: n, Load: named(n)})
	}
	return told
}

// upTo are the numbers from one to another.
func upTo(from, to int) []int {
	var list []int
	for n := from; n <= to; n++ {
		list = append(list, n)
	}
	return list
}

// sameMsgs holds all fields against each other.
func sameMsgs(a, b []api.Msg) bool {
	return slices.EqualFunc(a, b, func(a, b api.Msg) bool {
		return a.Kind == b.Kind && a.Token == b.Token && a.Epoch == b.Epoch && a.Seq == b.Seq && a.Ack == b.Ack &&
			a.Bits == b.Bits && a.Credit == b.Credit && a.Format == b.Format && bytes.Equal(a.Load, b.Load)
	})
}

// numbers are which loads are told, in order.
func numbers(told []api.Msg) []int {
	var list []int
	for _, m := range told {
		list = append(list, m.Seq)
	}
	return list
}

func expectErrno(t *testing.T, name string, got, want api.Errno) {
	t.Helper()
	if got != want {
		t.Fatalf("%s: %v, not %v", name, got, want)
	}
}

func expectPush(t *testing.T, s *send.Sender, load []byte, now, want int, wantWhy api.Errno) {
	t.Helper()
	if got, why := s.Push(load, now); got != want || why != wantWhy {
		t.Fatalf("Push(%d bytes, %d) is %d, %v: not %d, %v", len(load), now, got, why, want, wantWhy)
	}
}

// expectDue wants just the loads of these numbers to be told, by their names.
func expectDue(t *testing.T, s *send.Sender, now int, want ...int) {
	t.Helper()
	if got := s.Due(now); !sameMsgs(got, data(want...)) {
		t.Fatalf("Due(%d) is %v: not %v", now, got, want)
	}
}

func expectState(t *testing.T, s *send.Sender, out, base, next, limit int) {
	t.Helper()
	got, want := []int{s.Out(), s.Base(), s.Next(), s.Limit()}, []int{out, base, next, limit}
	if !slices.Equal(got, want) {
		t.Fatalf("Out, Base, Next, Limit are %v: not %v", got, want)
	}
}

// chance is a row of numbers that look like chance, the same ones each time.
type chance uint64

func (c *chance) next() uint64 {
	*c ^= *c << 13
	*c ^= *c >> 7
	*c ^= *c << 17
	return uint64(*c) * 2685821657736338717
}

func (c *chance) below(n int) int { return int(c.next() >> 1 % uint64(n)) }

// of is one of several numbers.
func (c *chance) of(list ...int) int { return list[c.below(len(list))] }

// load is one of few bytes, now and then one of many, or of too many.
func (c *chance) load() []byte {
	n := c.below(6)
	if c.below(20) == 0 {
		n = c.of(mostLoad-1, mostLoad, mostLoad+1, mostLoad+2)
	}
	b := make([]byte, n)
	for i := range b {
		b[i] = byte(c.next())
	}
	return b
}

// bits are those of an ack: none, one, a few or any.
func (c *chance) bits() uint64 {
	switch c.below(5) {
	case 0:
		return 0
	case 1:
		return 1 << c.below(64)
	case 2:
		return c.next() & c.next() & c.next()
	case 3:
		return 1<<c.below(8) - 1
	}
	return c.next()
}

// time is near to a time, now and then a far or a wrong one.
func (c *chance) time(now int) int {
	if c.below(40) == 0 {
		return c.of(-1, mostTime+1, mostTime, 0, -1<<63, 1<<63-1)
	}
	return now + c.of(0, 0, 0, 1, 2, 7, -1, -3)
}

// ackNear is an ack of numbers that were pushed, or one that is wrong.
func (c *chance) ackNear(m *model) int {
	switch c.below(12) {
	case 0:
		return c.of(-1, m.last()+1, m.last()+2, -1<<63, 1<<63-1, mostCredit)
	case 1:
		return m.last()
	case 2:
		return c.below(m.last() + 1)
	}
	return min(m.last(), max(0, m.base()-1+c.of(-2, -1, 0, 0, 0, 0, 1, 1, 2)))
}

// credit is one near to the last number pushed, or a far or a wrong one.
func (c *chance) credit(m *model) int {
	if c.below(40) == 0 {
		return c.of(-1, mostCredit, mostCredit+1, -1<<63, 1<<63-1)
	}
	return max(0, m.last()+c.below(12)-3)
}

// call does some call of both.
func (c *chance) call(b *both, now int) {
	switch c.below(12) {
	case 0, 1, 2, 3:
		b.push(c.load(), c.time(now))
	case 4, 5, 6:
		b.due(c.time(now))
	case 7, 8, 9, 10:
		b.ack(c.ackNear(b.m), c.bits(), c.credit(b.m))
	case 11:
		if c.below(4) == 0 {
			b.resume(c.ackNear(b.m), c.credit(b.m), c.time(now))
		}
	}
}
