package sess_test

import (
	"fmt"
	"math"
	"slices"
	"testing"

	"gantline/api"
	"gantline/sess"
)

// The document's bounds and numbers, as numbers of their own.
const (
	mostSessions = 64
	mostIdle     = 1048576
	lastTick     = 1099511627776

	kindHello   = 3
	kindWelcome = 4
	kindReset   = 5
	kindClose   = 7
)

// life is a session that is, or was.
type life struct {
	token         uint64
	epoch, format int
	heard         int
	gone          bool
}

// model is the document's table: it keeps all sessions that are or were, in the order in which they were begun.
type model struct {
	most, idle, time int
	lives            []*life
}

// live are the sessions that there are.
func (m *model) live() []*life {
	var list []*life
	for _, one := range m.lives {
		if !one.gone {
			list = append(list, one)
		}
	}
	return list
}

// of is the session with a token that is, or was.
func (m *model) of(token uint64) *life {
	for _, one := range m.lives {
		if one.token == token {
			return one
		}
	}
	return nil
}

// is is the session with a token that there is.
func (m *model) is(token uint64) *life {
	if one := m.of(token); one != nil && !one.gone {
		return one
	}
	return nil
}

// tick is what is ahead of whatever a call does at its time.
func (m *model) tick(now int) []uint64 {
	if now < 0 || now > lastTick {
		now = m.time
	}
	m.time = max(m.time, now)
	var ended []uint64
	for _, one := range m.live() {
		if one.heard+m.idle < m.time {
			one.gone = true
			ended = append(ended, one.token)
		}
	}
	return ended
}

func (m *model) hello(msg api.Msg, draw uint64, now int) (api.Msg, api.Errno) {
	m.tick(now)
	one, why := m.greet(msg, draw)
	if why != api.OK {
		return api.Msg{Kind: kindReset, Token: msg.Token}, why
	}
	one.epoch++
	one.format = msg.Format
	one.heard = m.time
	return api.Msg{Kind: kindWelcome, Token: one.token, Epoch: one.epoch, Format: one.format}, api.OK
}

// greet is the session that a Hello means; a new one has the epoch 0 yet.
func (m *model) greet(msg api.Msg, draw uint64) (*life, api.Errno) {
	if msg.Kind != kindHello || msg.Format < 1 || msg.Format > 2 {
		return nil, api.ErrKind
	}
	if msg.Token != 0 {
		if one := m.is(msg.Token); one != nil {
			return one, api.OK
		}
		return nil, api.ErrNone
	}
	if draw == 0 {
		return nil, api.ErrArg
	}
	if m.of(draw) != nil {
		return nil, api.ErrTwice
	}
	if len(m.live()) >= m.most {
		return nil, api.ErrBusy
	}
	one := &life{token: draw}
	m.lives = append(m.lives, one)
	return one, api.OK
}

func (m *model) hear(msg api.Msg, now int) api.Errno {
	m.tick(now)
	one := m.is(msg.Token)
	if one == nil {
		return api.ErrNone
	}
	if msg.Epoch < one.epoch {
		return api.ErrOld
	}
	if msg.Epoch > one.epoch {
		return api.ErrState
	}
	one.heard = m.time
	one.gone = msg.Kind == kindClose
	return api.OK
}

func (m *model) close(token uint64, now int) api.Errno {
	m.tick(now)
	one := m.is(token)
	if one == nil {
		return api.ErrNone
	}
	one.gone = true
	return api.OK
}

// both is a table and its model, which are called alike.
type both struct {
	t    *testing.T
	s    *sess.Table
	m    *model
	now  int
	done []call
}

// call is one that was done: told in words only where one is wrong, since there are many.
type call struct {
	name  string
	msg   api.Msg
	token uint64
	now   int
}

func (c call) String() string {
	return fmt.Sprintf("%s(kind %d, token %d, epoch %d, format %d; %d; %d)", c.name, c.msg.Kind, c.msg.Token, c.msg.Epoch, c.msg.Format, c.token, c.now)
}

func newBoth(t *testing.T, most, idle int) *both {
	return &both{t: t, s: made(t, most, idle), m: &model{most: most, idle: idle}}
}

func (b *both) fail(format string, args ...any) {
	b.t.Helper()
	b.t.Fatalf("most %d, idle %d, %v: %s", b.m.most, b.m.idle, b.done, fmt.Sprintf(format, args...))
}

// hold holds what the table tells of itself against the model, and P20.5.
func (b *both) hold() {
	if got, want := b.s.Live(), len(b.m.live()); got != want || got > b.m.most {
		b.fail("Live is %d, not %d", got, want)
	}
	for _, one := range b.m.lives {
		epoch, format, ok := b.s.Find(one.token)
		if one.gone && (epoch != 0 || format != 0 || ok) {
			b.fail("Find(%d) is %d, %d, %v: not nothing", one.token, epoch, format, ok)
		}
		if !one.gone && (epoch != one.epoch || format != one.format || !ok) {
			b.fail("Find(%d) is %d, %d, %v: not %d, %d", one.token, epoch, format, ok, one.epoch, one.format)
		}
	}
}

func (b *both) hello(m api.Msg, draw uint64, now int) api.Errno {
	b.done = append(b.done, call{"Hello", m, draw, now})
	got, why := b.s.Hello(m, draw, now)
	want, wantWhy := b.m.hello(m, draw, now)
	if why != wantWhy || !sameMsg(got, want) {
		b.fail("%+v, %v: not %+v, %v", got, why, want, wantWhy)
	}
	b.hold()
	return why
}

func (b *both) hear(m api.Msg, now int) api.Errno {
	b.done = append(b.done, call{"Hear", m, 0, now})
	why, want := b.s.Hear(m, now), b.m.hear(m, now)
	if why != want {
		b.fail("%v, not %v", why, want)
	}
	b.hold()
	return why
}

func (b *both) close(token uint64, now int) api.Errno {
	b.done = append(b.done, call{"Close", api.Msg{}, token, now})
	why, want := b.s.Close(token, now), b.m.close(token, now)
	if why != want {
		b.fail("%v, not %v", why, want)
	}
	b.hold()
	return why
}

func (b *both) tick(now int) {
	b.done = append(b.done, call{"Tick", api.Msg{}, 0, now})
	got, want := b.s.Tick(now), b.m.tick(now)
	if !slices.Equal(got, want) {
		b.fail("%v, not %v", got, want)
	}
	b.hold()
}

// sameMsg holds all fields against each other.
func sameMsg(a, b api.Msg) bool {
	return a.Kind == b.Kind && a.Token == b.Token && a.Epoch == b.Epoch && a.Seq == b.Seq && a.Ack == b.Ack &&
		a.Bits == b.Bits && a.Credit == b.Credit && a.Format == b.Format && string(a.Load) == string(b.Load)
}

// made is a table that New gave.
func made(t *testing.T, most, idle int) *sess.Table {
	t.Helper()
	s, why := sess.New(most, idle)
	if s == nil || why != api.OK {
		t.Fatalf("New(%d, %d) is %v, %v", most, idle, s, why)
	}
	return s
}

// goneEachWay is a table at tick 6 from which 1 went by time, 2 by Close and 3 by MsgClose; 4 stays.
func goneEachWay(t *testing.T) *sess.Table {
	t.Helper()
	s := made(t, 4, 5)
	begin(t, s, 0, 1)
	begin(t, s, 3, 2, 3, 4)
	expectTick(t, s, 6, 1)
	expectClose(t, s, 2, 6, api.OK)
	expectHear(t, s, bye(3, 1), 6, api.OK)
	return s
}

// hello is a MsgHello with a token (0 for a new session) and a format.
func hello(token uint64, format int) api.Msg {
	return api.Msg{Kind: kindHello, Token: token, Format: format}
}

// ping is a MsgPing of a session.
func ping(token uint64, epoch int) api.Msg {
	return api.Msg{Kind: api.MsgPing, Token: token, Epoch: epoch}
}

// bye is a MsgClose of a session.
func bye(token uint64, epoch int) api.Msg {
	return api.Msg{Kind: kindClose, Token: token, Epoch: epoch}
}

// begin wants new sessions with these tokens, of the format Json.
func begin(t *testing.T, s *sess.Table, now int, tokens ...uint64) {
	t.Helper()
	for _, token := range tokens {
		expectWelcome(t, s, hello(0, api.Json), token, now, token, 1)
	}
}

// expectWelcome wants a Hello to be answered with a token, an epoch and its own format, all else zero.
func expectWelcome(t *testing.T, s *sess.Table, m api.Msg, draw uint64, now int, token uint64, epoch int) {
	t.Helper()
	want := api.Msg{Kind: kindWelcome, Token: token, Epoch: epoch, Format: m.Format}
	if got, why := s.Hello(m, draw, now); why != api.OK || !sameMsg(got, want) {
		t.Fatalf("Hello(%+v, %d, %d) is %+v, %v: not %+v", m, draw, now, got, why, want)
	}
}

// expectReset wants a Hello to be refused, and answered with its own token alone.
func expectReset(t *testing.T, s *sess.Table, m api.Msg, draw uint64, now int, want api.Errno) {
	t.Helper()
	reset := api.Msg{Kind: kindReset, Token: m.Token}
	if got, why := s.Hello(m, draw, now); why != want || !sameMsg(got, reset) {
		t.Fatalf("Hello(%+v, %d, %d) is %+v, %v: not %+v, %v", m, draw, now, got, why, reset, want)
	}
}

func expectHear(t *testing.T, s *sess.Table, m api.Msg, now int, want api.Errno) {
	t.Helper()
	if why := s.Hear(m, now); why != want {
		t.Fatalf("Hear(%+v, %d) is %v: not %v", m, now, why, want)
	}
}

func expectClose(t *testing.T, s *sess.Table, token uint64, now int, want api.Errno) {
	t.Helper()
	if why := s.Close(token, now); why != want {
		t.Fatalf("Close(%d, %d) is %v: not %v", token, now, why, want)
	}
}

func expectTick(t *testing.T, s *sess.Table, now int, want ...uint64) {
	t.Helper()
	if got := s.Tick(now); !slices.Equal(got, want) {
		t.Fatalf("Tick(%d) is %v: not %v", now, got, want)
	}
}

func expectFind(t *testing.T, s *sess.Table, token uint64, epoch, format int) {
	t.Helper()
	if e, f, ok := s.Find(token); e != epoch || f != format || !ok {
		t.Fatalf("Find(%d) is %d, %d, %v: not %d, %d", token, e, f, ok, epoch, format)
	}
}

// expectGone wants that there are no sessions with these tokens.
func expectGone(t *testing.T, s *sess.Table, tokens ...uint64) {
	t.Helper()
	for _, token := range tokens {
		if e, f, ok := s.Find(token); e != 0 || f != 0 || ok {
			t.Fatalf("Find(%d) is %d, %d, %v: not nothing", token, e, f, ok)
		}
	}
}

// expectLive wants just these sessions, each with the epoch 1 and the format Json.
func expectLive(t *testing.T, s *sess.Table, tokens ...uint64) {
	t.Helper()
	expectCount(t, s, len(tokens))
	for _, token := range tokens {
		expectFind(t, s, token, 1, api.Json)
	}
}

func expectCount(t *testing.T, s *sess.Table, want int) {
	t.Helper()
	if got := s.Live(); got != want {
		t.Fatalf("Live is %d: not %d", got, want)
	}
}

// upTo are the tokens from one to another.
func upTo(from, to uint64) []uint64 {
	var list []uint64
	for token := from; token <= to; token++ {
		list = append(list, token)
	}
	return list
}

// wrongNows are nows that are no time, so that the table's time holds.
func wrongNows() []int {
	return []int{-1, -2, -mostIdle, -lastTick, -lastTick - 1, math.MinInt + 1, math.MinInt,
		lastTick + 1, lastTick + 2, lastTick + mostIdle, 2 * lastTick, 1 << 62, math.MaxInt - 1, math.MaxInt}
}

// wrongFormats are numbers that no format has.
func wrongFormats() []int {
	return []int{0, 3, 4, -1, -2, 256 + 1, 256 + 2, 1<<32 + 1, 1<<32 + 2, math.MaxInt, math.MinInt, math.MinInt + 1}
}

// otherKinds are kinds of messages that no Hello has.
func otherKinds() []int {
	return []int{0, 1, 2, 4, 5, 6, 7, 8, -1, -3, 256 + 3, 1<<32 + 3, math.MaxInt, math.MinInt}
}

// chance is a row of numbers that look like chance, and are the same at each run.
type chance uint64

func (c *chance) next() uint64 {
	*c ^= *c << 13
	*c ^= *c >> 7
	*c ^= *c << 17
	return uint64(*c) * 2685821657736338717
}

func (c *chance) below(n int) int { return int(c.next() >> 1 % uint64(n)) }

// of is one of several numbers.
func (c *chance) of(list ...int) int { return list[c.below(len(list))] }

// now is near to the time of both; seldom far from it, earlier, or none.
func (c *chance) now(b *both) int {
	switch c.below(12) {
	case 0:
		return c.of(wrongNows()...)
	case 1:
		return b.m.time - c.below(b.m.time+1)
	case 2:
		return b.m.time + c.below(b.m.idle+2)
	case 3:
		if live := b.m.live(); len(live) > 0 {
			return live[c.below(len(live))].heard + b.m.idle + c.below(2)
		}
	case 4, 5, 6:
		return b.m.time + c.below(2)
	}
	return b.m.time
}

// token is one that is, was, or may be; the few ones are drawn again and again.
func (c *chance) token(b *both) uint64 {
	if live := b.m.live(); len(live) > 0 && c.below(3) > 0 {
		return live[c.below(len(live))].token
	}
	switch c.below(30) {
	case 0:
		return 0
	case 1:
		return c.next()
	}
	return uint64(len(b.m.lives)) + 2 - uint64(c.below(len(b.m.lives)+2))
}

// epoch is mostly the right one of a token.
func (c *chance) epoch(b *both, token uint64) int {
	epoch := 1
	if one := b.m.of(token); one != nil {
		epoch = one.epoch
	}
	if c.below(5) == 0 {
		epoch = c.of(epoch-1, epoch+1, 0, -1, 1, math.MinInt, math.MaxInt, 1<<32+epoch)
	}
	return epoch
}

// hello is a MsgHello, seldom something else.
func (c *chance) hello(b *both) api.Msg {
	m := api.Msg{Kind: kindHello, Format: 1 + c.below(2)}
	if c.below(2) == 0 {
		m.Token = c.token(b)
	}
	if c.below(12) == 0 {
		m.Kind = c.of(otherKinds()...)
	}
	if c.below(12) == 0 {
		m.Format = c.of(wrongFormats()...)
	}
	return m
}

// call does some call of both.
func (c *chance) call(b *both) {
	now := c.now(b)
	switch c.below(12) {
	case 0:
		b.tick(now)
	case 1:
		b.close(c.token(b), now)
	case 2, 3, 4, 5, 6:
		b.hello(c.hello(b), c.token(b), now)
	default:
		token := c.token(b)
		m := api.Msg{Kind: c.of(0, 1, 2, 3, 4, 5, 6, 1, 2, 6, 7, 8, -7), Token: token, Epoch: c.epoch(b, token), Format: c.below(3)}
		b.hear(m, now)
	}
}
