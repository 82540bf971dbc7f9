package recv_test

import (
	"bytes"
	"fmt"
	"slices"
	"testing"

	"gantline/api"
	"gantline/recv"
)

// The document's bounds, as numbers of their own.
const (
	mostWindow = 32
	mostLoad   = 1200
)

// model is the document's receiver: it keeps all loads that ever came, by their numbers.
type model struct {
	window, taken int
	came          map[int][]byte
}

func (m *model) data(seq int, load []byte) api.Errno {
	if seq < 1 {
		return api.ErrArg
	}
	if len(load) > mostLoad {
		return api.ErrMany
	}
	if _, ok := m.came[seq]; ok {
		return api.ErrOld
	}
	if seq > m.taken+m.window {
		return api.ErrWait
	}
	m.came[seq] = slices.Clone(load)
	return api.OK
}

func (m *model) take() ([]byte, bool) {
	load, ok := m.came[m.taken+1]
	if ok {
		m.taken++
	}
	return load, ok
}

// row is the last number that came without a gap.
func (m *model) row() int {
	n := 0
	for {
		if _, ok := m.came[n+1]; !ok {
			return n
		}
		n++
	}
}

func (m *model) ack() (int, uint64, int) {
	var bits uint64
	ack := m.row()
	for seq := range m.came {
		if i := seq - ack - 2; i >= 0 {
			bits |= 1 << i
		}
	}
	return ack, bits, m.taken + m.window
}

func (m *model) state() state {
	ack, bits, credit := m.ack()
	return state{ack, bits, credit, m.taken, ack - m.taken, len(m.came) - m.taken}
}

// state is all that a receiver tells of itself.
type state struct {
	ack                        int
	bits                       uint64
	credit, taken, ready, held int
}

func (s state) String() string {
	return fmt.Sprintf("Ack %d, %b, %d, Taken %d, Ready %d, Held %d", s.ack, s.bits, s.credit, s.taken, s.ready, s.held)
}

func stateOf(r *recv.Receiver) state {
	ack, bits, credit := r.Ack()
	return state{ack, bits, credit, r.Taken(), r.Ready(), r.Held()}
}

// both is a receiver and its model, which are called alike.
type both struct {
	t    *testing.T
	r    *recv.Receiver
	m    *model
	last state
	done []call
}

// call is one that was done: told in words only where one is wrong, since there are many.
type call struct {
	name   string
	number int
}

func (c call) String() string { return fmt.Sprintf("%s(%d)", c.name, c.number) }

func newBoth(t *testing.T, window int) *both {
	b := &both{t: t, r: made(t, window), m: &model{window: window, came: map[int][]byte{}}}
	b.hold()
	return b
}

func (b *both) fail(format string, args ...any) {
	b.t.Helper()
	b.t.Fatalf("window %d, %v: %s", b.m.window, b.done, fmt.Sprintf(format, args...))
}

// hold holds what the receiver tells of itself against the model, and P18.5 and P18.7.
func (b *both) hold() {
	got, want := stateOf(b.r), b.m.state()
	if got != want {
		b.fail("%v: not %v", got, want)
	}
	if got.held > b.m.window || got.ready > got.held {
		b.fail("%v: too many are held", got)
	}
	if got.ack < b.last.ack || got.credit < b.last.credit || got.credit-got.ack > b.m.window {
		b.fail("%v, behind %v", got, b.last)
	}
	b.last = got
}

func (b *both) data(seq int, load []byte) api.Errno {
	b.done = append(b.done, call{"Data", seq})
	why, want := b.r.Data(seq, load), b.m.data(seq, load)
	if why != want {
		b.fail("%d bytes: %v, not %v", len(load), why, want)
	}
	b.hold()
	return why
}

func (b *both) take() bool {
	b.done = append(b.done, call{"Take", b.m.taken + 1})
	load, ok := b.r.Take()
	want, wantOk := b.m.take()
	if ok != wantOk || !bytes.Equal(load, want) || !ok && load != nil {
		b.fail("%q, %v: not %q, %v", load, ok, want, wantOk)
	}
	b.hold()
	return ok
}

// made is a receiver that New gave.
func made(t *testing.T, window int) *recv.Receiver {
	t.Helper()
	r, why := recv.New(window)
	if r == nil || why != api.OK {
		t.Fatalf("New(%d) is %v, %v", window, r, why)
	}
	return r
}

// takenTo is a receiver of which so many loads were taken, and that holds none.
func takenTo(t *testing.T, window, taken int) *recv.Receiver {
	t.Helper()
	r := made(t, window)
	for n := 1; n <= taken; n++ {
		expectData(t, r, n, named(n), api.OK)
		expectTake(t, r, n)
	}
	return r
}

// named is the load that tests hand in under a number.
func named(number int) []byte { return fmt.Appendf(nil, "load %d", number) }

func expectData(t *testing.T, r *recv.Receiver, seq int, load []byte, want api.Errno) {
	t.Helper()
	if why := r.Data(seq, load); why != want {
		t.Fatalf("Data(%d, %d bytes) is %v: not %v", seq, len(load), why, want)
	}
}

// comes wants the loads of these numbers, by their names, to be taken in.
func comes(t *testing.T, r *recv.Receiver, numbers ...int) {
	t.Helper()
	for _, n := range numbers {
		expectData(t, r, n, named(n), api.OK)
	}
}

// expectTake wants the loads of these numbers, by their names, to be taken in a row.
func expectTake(t *testing.T, r *recv.Receiver, numbers ...int) {
	t.Helper()
	for _, n := range numbers {
		if load, ok := r.Take(); !ok || !bytes.Equal(load, named(n)) {
			t.Fatalf("Take is %q, %v: not %q", load, ok, named(n))
		}
	}
}

func expectNothing(t *testing.T, r *recv.Receiver) {
	t.Helper()
	if load, ok := r.Take(); ok || load != nil {
		t.Fatalf("Take is %q, %v: not nothing", load, ok)
	}
}

func expectAck(t *testing.T, r *recv.Receiver, ack int, bits uint64, credit int) {
	t.Helper()
	if a, b, c := r.Ack(); a != ack || b != bits || c != credit {
		t.Fatalf("Ack is %d, %b, %d: not %d, %b, %d", a, b, c, ack, bits, credit)
	}
}

func expectCounts(t *testing.T, r *recv.Receiver, taken, ready, held int) {
	t.Helper()
	got, want := []int{r.Taken(), r.Ready(), r.Held()}, []int{taken, ready, held}
	if !slices.Equal(got, want) {
		t.Fatalf("Taken, Ready, Held are %v: not %v", got, want)
	}
}

// upTo are the numbers from one to another.
func upTo(from, to int) []int {
	var list []int
	for n := from; n <= to; n++ {
		list = append(list, n)
	}
	return list
}

// orders hands on each order of the numbers from 1 to n. The list is one and the same.
func orders(n int, use func([]int)) {
	list := upTo(1, n)
	var settle func(int)
	settle = func(at int) {
		if at == n {
			use(list)
			return
		}
		for i := at; i < n; i++ {
			list[at], list[i] = list[i], list[at]
			settle(at + 1)
			list[at], list[i] = list[i], list[at]
		}
	}
	settle(0)
}

// chance is a row of numbers that look like chance, and are the same at each run.
type chance uint64

func (c *chance) next() uint64 {
	*c ^= *c << 13
	*c ^= *c >> 7
	*c ^= *c << 17
	return uint64(*c) * 2685821657736338717
}

func (c *chance) below(n int) int { return int(c.next() >> 1 % uint64(n)) }

// of is one of several numbers.
func (c *chance) of(list ...int) int { return list[c.below(len(list))] }

// load is one of few bytes, now and then one of many, or of too many.
func (c *chance) load() []byte {
	n := c.below(6)
	if c.below(20) == 0 {
		n = c.of(mostLoad-1, mostLoad, mostLoad+1, mostLoad+2)
	}
	b := make([]byte, n)
	for i := range b {
		b[i] = byte(c.next())
	}
	return b
}

// seq is a number near to the taken ones, or a far or a wrong one.
func (c *chance) seq(m *model) int {
	switch c.below(20) {
	case 0:
		return c.of(0, -1, -mostWindow, -1<<63, 1<<63-1, 1<<62, 1<<32+m.taken+1)
	case 1:
		return 1 + c.below(m.taken+1)
	case 2:
		return m.taken + m.window + c.below(4)
	case 3, 4, 5, 6:
		return m.row() + 1
	}
	return m.taken + 1 + c.below(m.window)
}

// call does some call of both.
func (c *chance) call(b *both) {
	if c.below(3) == 0 {
		b.take()
		return
	}
	b.data(c.seq(b.m), c.load())
}
