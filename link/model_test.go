package link_test

import (
	"bytes"
	"encoding/binary"
	"fmt"
	"hash/crc32"
	"math/big"
	"slices"
	"testing"

	"gantline/api"
	"gantline/link"
	"gantline/recv"
	"gantline/send"
)

// The document's bounds, as numbers of their own.
const (
	mostWindow = 32
	mostSent   = 1100
	mostLoad   = 1200
	mostFrame  = 1208
	mostNumber = 4611686018427387904
	mostOnWay  = 256
	fairRounds = 66
)

// short is a short number: groups of seven bits, the highest first.
func short(n *big.Int) []byte {
	var told []byte
	rest := new(big.Int).Set(n)
	for {
		group := byte(new(big.Int).And(rest, big.NewInt(127)).Int64())
		if len(told) > 0 {
			group |= 128
		}
		told = append([]byte{group}, told...)
		rest.Rsh(rest, 7)
		if rest.Sign() == 0 {
			return told
		}
	}
}

// shorts are short numbers behind one another.
func shorts(list ...uint64) []byte {
	var told []byte
	for _, n := range list {
		told = append(told, short(new(big.Int).SetUint64(n))...)
	}
	return told
}

// framed is the frame of a load, also of one that is too long.
func framed(load []byte) []byte {
	told := binary.BigEndian.AppendUint16(nil, uint16(len(load)))
	told = append(told, load...)
	whole := append([]byte{165, 90}, told...)
	return binary.LittleEndian.AppendUint32(whole, crc32.ChecksumIEEE(told))
}

// told are the bytes of a frame's load that tells a message.
func told(m api.Msg) []byte {
	b := shorts(uint64(m.Kind), m.Token, uint64(m.Epoch), uint64(m.Seq), uint64(m.Ack), m.Bits, uint64(m.Credit), uint64(m.Format))
	return append(b, m.Load...)
}

// packed is a datagram, by the document's words.
func packed(m api.Msg) []byte { return framed(told(m)) }

// readShort reads a short number: how many bytes it has, or 0, if none begins there.
func readShort(b []byte) (uint64, int) {
	n := new(big.Int)
	for i, x := range b {
		n.Lsh(n, 7)
		n.Add(n, big.NewInt(int64(x%128)))
		if x >= 128 {
			continue
		}
		if n.IsUint64() && bytes.Equal(short(n), b[:i+1]) {
			return n.Uint64(), i + 1
		}
		break
	}
	return 0, 0
}

// read is what a datagram tells, by the document's words.
func read(b []byte) (api.Msg, api.Errno) {
	n := len(b) - 8
	if n < 0 || n > mostLoad || !bytes.Equal(framed(b[4:4+n]), b) {
		return api.Msg{}, api.ErrSum
	}
	load := b[4 : 4+n]
	var list []uint64
	for range 8 {
		number, size := readShort(load)
		if size == 0 {
			return api.Msg{}, api.ErrForm
		}
		list = append(list, number)
		load = load[size:]
	}
	for _, at := range []int{2, 3, 4, 6} {
		if list[at] > mostNumber {
			return api.Msg{}, api.ErrForm
		}
	}
	if list[0] < 1 || list[0] > 7 || list[7] > 2 {
		return api.Msg{}, api.ErrForm
	}
	return api.Msg{
		Kind: int(list[0]), Token: list[1], Epoch: int(list[2]), Seq: int(list[3]),
		Ack: int(list[4]), Bits: list[5], Credit: int(list[6]), Format: int(list[7]), Load: slices.Clone(load),
	}, api.OK
}

// sameMsg holds all fields against each other.
func sameMsg(a, b api.Msg) bool {
	return a.Kind == b.Kind && a.Token == b.Token && a.Epoch == b.Epoch && a.Seq == b.Seq && a.Ack == b.Ack &&
		a.Bits == b.Bits && a.Credit == b.Credit && a.Format == b.Format && bytes.Equal(a.Load, b.Load)
}

// onWay is a datagram on its way: one that a link told, or the bytes of a forged one.
type onWay struct {
	m      api.Msg
	forged []byte
	spoilt bool
}

// model is the document's link, told in layers 17 and 18 as the chapter is; its datagrams are messages, not bytes.
type model struct {
	window      int
	token       uint64
	time, epoch int
	s           *send.Sender
	r           *recv.Receiver
	nets        [2][]onWay
	sent        [][]byte // all loads that Send took
	got         int
}

func newModel(window int, token uint64) *model {
	s, _ := send.New(window)
	r, _ := recv.New(window)
	s.Ack(0, 0, window)
	return &model{window: window, token: token, epoch: 1, s: s, r: r}
}

func (m *model) come(net int, d onWay) {
	if len(m.nets[net]) < mostOnWay {
		m.nets[net] = append(m.nets[net], d)
	}
}

// where is why there is no such datagram.
func (m *model) where(net, i int) api.Errno {
	if net != 0 && net != 1 {
		return api.ErrArg
	}
	if i < 0 || i >= len(m.nets[net]) {
		return api.ErrNone
	}
	return api.OK
}

func (m *model) send(load []byte) api.Errno {
	if len(load) > mostSent {
		return api.ErrMany
	}
	_, why := m.s.Push(load, m.time)
	if why == api.OK {
		m.sent = append(m.sent, slices.Clone(load))
	}
	return why
}

func (m *model) poll() ([]byte, bool) {
	load, ok := m.r.Take()
	if ok {
		m.got++
	}
	return load, ok
}

func (m *model) tick() {
	m.time++
	for _, d := range m.s.Due(m.time) {
		d.Token, d.Epoch = m.token, m.epoch
		m.come(0, onWay{m: d})
	}
	ack, bits, credit := m.r.Ack()
	m.come(1, onWay{m: api.Msg{Kind: 2, Token: m.token, Epoch: m.epoch, Ack: ack, Bits: bits, Credit: credit}})
}

func (m *model) deliver(net, i int) api.Errno {
	if why := m.where(net, i); why != api.OK {
		return why
	}
	d := m.nets[net][i]
	m.nets[net] = slices.Delete(m.nets[net], i, i+1)
	switch {
	case d.forged != nil:
		// A forged datagram never has the link's token.
		if _, why := read(d.forged); why != api.OK {
			return why
		}
		return api.ErrKind
	case d.spoilt:
		return api.ErrSum
	case d.m.Epoch != m.epoch:
		return api.ErrOld
	case net == 0:
		return m.r.Data(d.m.Seq, d.m.Load)
	}
	return m.s.Ack(d.m.Ack, d.m.Bits, d.m.Credit)
}

func (m *model) drop(net, i int) api.Errno {
	why := m.where(net, i)
	if why == api.OK {
		m.nets[net] = slices.Delete(m.nets[net], i, i+1)
	}
	return why
}

func (m *model) twice(net, i int) api.Errno {
	why := m.where(net, i)
	if why == api.OK {
		m.come(net, m.nets[net][i])
	}
	return why
}

func (m *model) turn(net, i int, by uint32) api.Errno {
	why := m.where(net, i)
	if why != api.OK {
		return why
	}
	if m.nets[net][i].spoilt {
		return api.ErrState
	}
	m.nets[net][i].spoilt = by != 0
	return api.OK
}

func (m *model) forge(net int, b []byte) api.Errno {
	if net != 0 && net != 1 {
		return api.ErrArg
	}
	if len(b) > mostFrame {
		return api.ErrMany
	}
	if d, why := read(b); why == api.OK && d.Token == m.token {
		return api.ErrArg
	}
	m.come(net, onWay{forged: append([]byte{}, b...), spoilt: true})
	return api.OK
}

func (m *model) reconnect() {
	m.epoch++
	ack, _, credit := m.r.Ack()
	m.s.Resume(ack, credit, m.time)
}

// state is all that a link tells of itself.
type state struct{ way0, way1, sent, got, held int }

func (s state) String() string {
	return fmt.Sprintf("Way(0) %d, Way(1) %d, Sent %d, Got %d, Held %d", s.way0, s.way1, s.sent, s.got, s.held)
}

func stateOf(l *link.Link) state {
	return state{l.Way(0), l.Way(1), l.Sent(), l.Got(), l.Held()}
}

func (m *model) state() state {
	return state{len(m.nets[0]), len(m.nets[1]), len(m.sent), m.got, m.r.Held()}
}

// both is a link and its model, which are called alike.
type both struct {
	t    *testing.T
	l    *link.Link
	m    *model
	done []call
}

// call is one that was done: told in words only where one is wrong, since there are many.
type call struct {
	name string
	args [4]int
}

func (c call) String() string { return fmt.Sprintf("%s%v", c.name, c.args) }

func newBoth(t *testing.T, window int, token uint64) *both {
	return &both{t: t, l: made(t, window, token), m: newModel(window, token)}
}

func (b *both) note(name string, args ...int) {
	c := call{name: name}
	copy(c.args[:], args)
	b.done = append(b.done, c)
}

func (b *both) fail(format string, args ...any) {
	b.t.Helper()
	b.t.Fatalf("window %d, token %d, %v: %s", b.m.window, b.m.token, b.done, fmt.Sprintf(format, args...))
}

// hold holds an answer and what the link tells of itself against the model, and P19.7.
func (b *both) hold(why, want api.Errno) api.Errno {
	b.t.Helper()
	if why != want {
		b.fail("%v, not %v", why, want)
	}
	got, wanted := stateOf(b.l), b.m.state()
	if got != wanted {
		b.fail("%v: not %v", got, wanted)
	}
	if got.held > b.m.window || got.sent-got.got > b.m.window || got.way0 > mostOnWay || got.way1 > mostOnWay {
		b.fail("%v: too many", got)
	}
	return why
}

func (b *both) send(load []byte) api.Errno {
	b.note("Send", len(load))
	return b.hold(b.l.Send(load), b.m.send(load))
}

// poll holds P19.5, too.
func (b *both) poll() bool {
	b.note("Poll")
	load, ok := b.l.Poll()
	want, wantOk := b.m.poll()
	if ok != wantOk || !bytes.Equal(load, want) || !ok && load != nil {
		b.fail("%q, %v: not %q, %v", load, ok, want, wantOk)
	}
	if ok && (b.m.got > len(b.m.sent) || !bytes.Equal(load, b.m.sent[b.m.got-1])) {
		b.fail("%q is answered, the %d-th, of %d that were sent", load, b.m.got, len(b.m.sent))
	}
	b.hold(api.OK, api.OK)
	return ok
}

func (b *both) tick() {
	b.note("Tick")
	b.l.Tick()
	b.m.tick()
	b.hold(api.OK, api.OK)
}

func (b *both) deliver(net, i int) api.Errno {
	b.note("Deliver", net, i)
	return b.hold(b.l.Deliver(net, i), b.m.deliver(net, i))
}

func (b *both) drop(net, i int) api.Errno {
	b.note("Drop", net, i)
	return b.hold(b.l.Drop(net, i), b.m.drop(net, i))
}

func (b *both) twice(net, i int) api.Errno {
	b.note("Twice", net, i)
	return b.hold(b.l.Twice(net, i), b.m.twice(net, i))
}

func (b *both) turn(net, i, at int, by uint32) api.Errno {
	b.note("Turn", net, i, at, int(by))
	return b.hold(b.l.Turn(net, i, at, by), b.m.turn(net, i, by))
}

func (b *both) forge(net int, bytes []byte) api.Errno {
	b.note("Forge", net, len(bytes))
	return b.hold(b.l.Forge(net, bytes), b.m.forge(net, bytes))
}

func (b *both) reconnect() {
	b.note("Reconnect")
	b.l.Reconnect()
	b.m.reconnect()
	b.hold(api.OK, api.OK)
}

// fairRound is one of P19.6.
func (b *both) fairRound() {
	b.tick()
	for net := range 2 {
		for b.l.Way(net) > 0 {
			b.deliver(net, 0)
		}
	}
	for b.poll() {
	}
}

// fair holds P19.6: so many fair rounds, and all that was sent is answered. The answer is how many of them were needed.
func (b *both) fair() int {
	b.t.Helper()
	needed := 0
	for i := range fairRounds {
		if b.l.Got() < b.l.Sent() {
			needed = i + 1
		}
		b.fairRound()
	}
	if b.l.Got() != b.l.Sent() || b.l.Held() != 0 {
		b.fail("behind %d fair rounds: %v", fairRounds, stateOf(b.l))
	}
	return needed
}

// made is a link that New gave.
func made(t *testing.T, window int, token uint64) *link.Link {
	t.Helper()
	l, why := link.New(window, token)
	if l == nil || why != api.OK {
		t.Fatalf("New(%d, %d) is %v, %v", window, token, l, why)
	}
	return l
}

// named is the load that tests send under a number.
func named(number int) []byte { return fmt.Appendf(nil, "load %d", number) }

// sendNamed sends the loads of these numbers, by their names.
func sendNamed(t *testing.T, l *link.Link, numbers ...int) {
	t.Helper()
	for _, n := range numbers {
		expect(t, "Send", l.Send(named(n)), api.OK)
	}
}

func expect(t *testing.T, name string, got, want api.Errno) {
	t.Helper()
	if got != want {
		t.Fatalf("%s: %v, not %v", name, got, want)
	}
}

// expectPoll wants the loads of these numbers, by their names, to be answered, and then nothing.
func expectPoll(t *testing.T, l *link.Link, numbers ...int) {
	t.Helper()
	for _, n := range numbers {
		if load, ok := l.Poll(); !ok || !bytes.Equal(load, named(n)) {
			t.Fatalf("Poll is %q, %v: not %q", load, ok, named(n))
		}
	}
	if load, ok := l.Poll(); ok || load != nil {
		t.Fatalf("Poll is %q, %v: not nothing", load, ok)
	}
}

func expectState(t *testing.T, l *link.Link, way0, way1, sent, got, held int) {
	t.Helper()
	if is, want := stateOf(l), (state{way0, way1, sent, got, held}); is != want {
		t.Fatalf("%v: not %v", is, want)
	}
}

// deliverAll delivers all that is on its way in a net, first come first, and answers the errors.
func deliverAll(l *link.Link, net int) []api.Errno {
	var list []api.Errno
	for n := l.Way(net); n > 0; n-- {
		list = append(list, l.Deliver(net, 0))
	}
	return list
}

func expectAll(t *testing.T, l *link.Link, net int, want ...api.Errno) {
	t.Helper()
	if got := deliverAll(l, net); !slices.Equal(got, want) {
		t.Fatalf("what Deliver says of net %d: %v, not %v", net, got, want)
	}
}

// upTo are the numbers from one to another.
func upTo(from, to int) []int {
	var list []int
	for n := from; n <= to; n++ {
		list = append(list, n)
	}
	return list
}

// chance is a row of numbers that look like chance, and are the same at each run.
type chance uint64

func (c *chance) next() uint64 {
	*c ^= *c << 13
	*c ^= *c >> 7
	*c ^= *c << 17
	return uint64(*c) * 2685821657736338717
}

func (c *chance) below(n int) int { return int(c.next() >> 1 % uint64(n)) }

// of is one of several numbers.
func (c *chance) of(list ...int) int { return list[c.below(len(list))] }

// bytes are so many of any.
func (c *chance) bytes(n int) []byte {
	b := make([]byte, n)
	for i := range b {
		b[i] = byte(c.next())
	}
	return b
}

// load is one of few bytes, now and then one of many, or of too many.
func (c *chance) load() []byte {
	if c.below(20) == 0 {
		return c.bytes(c.of(mostSent-1, mostSent, mostSent+1, mostSent+2))
	}
	return c.bytes(c.below(6))
}

// place is a net and an index: mostly of a datagram that is there.
func (c *chance) place(m *model) (int, int) {
	net := c.below(2)
	switch c.below(20) {
	case 0:
		return c.of(-1, 2, 3, -1<<63, 1<<63-1), c.of(0, -1, 1)
	case 1:
		return net, c.of(-1, len(m.nets[net]), len(m.nets[net])+1, mostOnWay, -1<<63, 1<<63-1)
	}
	return net, c.below(len(m.nets[net]) + 1)
}

// msg is a message that may be told.
func (c *chance) msg(token uint64) api.Msg {
	return api.Msg{
		Kind: 1 + c.below(7), Token: token, Epoch: c.number(), Seq: c.number(),
		Ack: c.number(), Bits: c.next() >> c.below(64), Credit: c.number(), Format: c.below(3), Load: c.bytes(c.below(20)),
	}
}

// number is one of a message: mostly low, now and then at its bound.
func (c *chance) number() int {
	switch c.below(8) {
	case 0:
		return c.of(0, mostNumber, mostNumber-1)
	case 1:
		return int(c.next() >> (2 + c.below(62)))
	}
	return c.below(5)
}

// forged are bytes that somebody may put on their way: a datagram, mostly of another token, a broken one, or anything.
func (c *chance) forged(m *model) []byte {
	switch c.below(8) {
	case 0:
		return c.bytes(c.below(40))
	case 1:
		return c.bytes(mostFrame + c.below(3) - 1)
	case 2:
		b := packed(c.msg(m.token))
		b[c.below(len(b))] ^= byte(1 + c.below(255))
		return b
	case 3:
		return framed(c.bytes(c.below(30)))
	case 4:
		return packed(c.msg(m.token))
	case 5:
		b := told(c.msg(m.token))
		return framed(b[:c.below(len(b))])
	}
	return packed(c.msg(m.token + 1 + uint64(c.below(3))))
}

// act does some call of both. Bad is how many of 100 calls are of those that do harm to a datagram.
func (c *chance) act(b *both, bad int) {
	if c.below(100) < bad {
		c.harm(b)
		return
	}
	switch c.below(10) {
	case 0, 1, 2:
		b.send(c.load())
	case 3:
		b.tick()
	case 4, 5, 6, 7:
		b.deliver(c.place(b.m))
	default:
		b.poll()
	}
}

// harm does some call that does harm to what is on its way.
func (c *chance) harm(b *both) {
	net, i := c.place(b.m)
	switch c.below(10) {
	case 0, 1, 2:
		b.drop(net, i)
	case 3, 4:
		b.twice(net, i)
	case 5, 6:
		by := uint32(c.next()) >> c.below(32) << c.below(32)
		b.turn(net, i, c.of(-1<<63, 1<<63-1, c.below(100)-50, c.below(2000)), by)
	case 7, 8:
		b.forge(net, c.forged(b.m))
	default:
		if c.below(3) == 0 {
			b.reconnect()
		}
	}
}
