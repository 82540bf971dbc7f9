package sess_test

import (
	"bytes"
	"math"
	"slices"
	"testing"

	"gantline/api"
	"gantline/sess"
)

// The document's example.
func TestExample(t *testing.T) {
	s := made(t, 4, 10)
	expectWelcome(t, s, hello(0, api.Json), 7, 0, 7, 1)
	expectWelcome(t, s, hello(7, api.Json), 0, 0, 7, 2)
}

// P20.1: each table that may be has no sessions.
func TestNew(t *testing.T) {
	for most := 1; most <= mostSessions; most++ {
		for _, idle := range []int{1, 2, 64, 1000, mostIdle - 1, mostIdle} {
			s := made(t, most, idle)
			expectCount(t, s, 0)
			expectGone(t, s, 0, 1, math.MaxUint64)
			expectTick(t, s, 0)
			expectTick(t, s, lastTick)
			expectCount(t, s, 0)
		}
	}
}

// P20.1: tables that may not be.
func TestNewWrong(t *testing.T) {
	wrongMost := []int{0, -1, -64, 65, 66, 128, 256 + 1, 1<<32 + 1, math.MaxInt, math.MinInt, math.MinInt + 1}
	wrongIdle := []int{0, -1, -mostIdle, mostIdle + 1, mostIdle + 2, 2 * mostIdle, 1<<32 + 1, lastTick, math.MaxInt, math.MinInt, math.MinInt + 1}
	expectNone := func(most, idle int) {
		if s, why := sess.New(most, idle); s != nil || why != api.ErrArg {
			t.Errorf("New(%d, %d) is %v, %v", most, idle, s, why)
		}
	}
	for _, most := range wrongMost {
		for _, idle := range []int{1, 10, mostIdle} {
			expectNone(most, idle)
		}
		for _, idle := range wrongIdle {
			expectNone(most, idle)
		}
	}
	for _, idle := range wrongIdle {
		for _, most := range []int{1, 10, mostSessions} {
			expectNone(most, idle)
		}
	}
}

// P20.2, P20.3: sessions that are begun, at each size of a table, with each format; each is found, and no other.
func TestBegin(t *testing.T) {
	for most := 1; most <= mostSessions; most++ {
		s := made(t, most, 5)
		for n := range most {
			token, format := 3*uint64(n)+5, 1+n%2
			expectGone(t, s, token)
			expectWelcome(t, s, hello(0, format), token, n%4, token, 1)
			expectFind(t, s, token, 1, format)
			expectGone(t, s, 0, token-1, token+1)
			expectCount(t, s, n+1)
		}
		for n := range most {
			expectFind(t, s, 3*uint64(n)+5, 1, 1+n%2)
		}
	}
}

// P20.2: tokens of all 64 bits.
func TestBeginFarTokens(t *testing.T) {
	s := made(t, 64, 5)
	for bit := range 64 {
		expectWelcome(t, s, hello(0, api.Cbor), 1<<bit, 0, 1<<bit, 1)
	}
	for bit := range 64 {
		expectWelcome(t, s, hello(1<<bit, api.Json), 0, 0, 1<<bit, 2)
	}
	expectClose(t, s, 1, 0, api.OK)
	begin(t, s, 0, math.MaxUint64)
	expectGone(t, s, 0, 1, math.MaxUint64-1, math.MaxInt64)
	expectFind(t, s, math.MaxUint64, 1, api.Json)
	expectFind(t, s, 1<<63, 2, api.Json)
}

// P20.2, P20.6: a session that is begun anew, often, with each format behind each; the others stay as they are.
func TestAnew(t *testing.T) {
	s := made(t, 3, 5)
	begin(t, s, 0, 7, 8, 9)
	formats := []int{api.Json, api.Json, api.Cbor, api.Cbor, api.Json}
	for i := range 100 {
		format := formats[i%len(formats)]
		expectWelcome(t, s, hello(8, format), 0, 0, 8, i+2)
		expectFind(t, s, 8, i+2, format)
		expectFind(t, s, 7, 1, api.Json)
		expectFind(t, s, 9, 1, api.Json)
		expectCount(t, s, 3)
	}
	expectWelcome(t, s, hello(7, api.Cbor), 0, 0, 7, 2)
	expectFind(t, s, 8, 101, api.Json)
}

// P20.2: of a Hello with another token the draw is not asked for, and no session comes of it; a full table takes it, too.
func TestAnewDraw(t *testing.T) {
	s := made(t, 2, 5)
	begin(t, s, 0, 7, 8)
	for i, draw := range []uint64{0, 7, 8, 9, math.MaxUint64} {
		expectWelcome(t, s, hello(7, api.Json), draw, 0, 7, i+2)
		expectCount(t, s, 2)
	}
	expectClose(t, s, 8, 0, api.OK)
	begin(t, s, 0, 9)
	expectClose(t, s, 9, 0, api.OK)
	begin(t, s, 0, math.MaxUint64)
}

// P20.2, R6: the other fields of a Hello, and of its answer.
func TestHelloOtherFields(t *testing.T) {
	s := made(t, 2, 5)
	full := api.Msg{Kind: kindHello, Epoch: 9, Seq: 8, Ack: 7, Bits: 6, Credit: 5, Format: api.Cbor, Load: []byte{4}}
	expectWelcome(t, s, full, 3, 0, 3, 1)
	full.Token = 3
	for _, epoch := range []int{9, 1, 0, -1, math.MaxInt, math.MinInt} {
		full.Epoch = epoch
		e, _, _ := s.Find(3)
		expectWelcome(t, s, full, 3, 0, 3, e+1)
	}
	full.Token = 4
	expectReset(t, s, full, 3, 0, api.ErrNone)
	full.Token, full.Kind = 3, api.MsgPing
	expectReset(t, s, full, 3, 0, api.ErrKind)
	full.Token = 0
	expectReset(t, s, full, 5, 0, api.ErrKind)
	full.Kind = kindHello
	expectReset(t, s, full, 0, 0, api.ErrArg)
	expectReset(t, s, full, 3, 0, api.ErrTwice)
	begin(t, s, 0, 4)
	expectReset(t, s, full, 5, 0, api.ErrBusy)
}

// P20.2, R7: messages of other kinds, and of no format, are refused, and turn nothing.
func TestHelloWrongKind(t *testing.T) {
	s := made(t, 3, 5)
	begin(t, s, 0, 7, 8)
	for _, token := range []uint64{0, 7, 9} {
		for _, kind := range otherKinds() {
			expectReset(t, s, api.Msg{Kind: kind, Token: token, Epoch: 1, Format: api.Json}, 10, 0, api.ErrKind)
			expectReset(t, s, api.Msg{Kind: kind, Token: token, Epoch: 1, Format: 3}, 10, 0, api.ErrKind)
		}
		for _, format := range wrongFormats() {
			expectReset(t, s, hello(token, format), 10, 0, api.ErrKind)
		}
		expectLive(t, s, 7, 8)
		expectGone(t, s, 0, 9, 10)
	}
	begin(t, s, 0, 10)
	expectLive(t, s, 7, 8, 10)
}

// P20.2, R7: a draw of 0 begins no session, in an empty table and in a full one.
func TestHelloDrawOfNothing(t *testing.T) {
	s := made(t, 1, 5)
	expectReset(t, s, hello(0, api.Json), 0, 0, api.ErrArg)
	expectCount(t, s, 0)
	expectGone(t, s, 0)
	begin(t, s, 0, 7)
	expectReset(t, s, hello(0, api.Cbor), 0, 0, api.ErrArg)
	expectLive(t, s, 7)
	expectHear(t, s, ping(0, 1), 0, api.ErrNone)
}

// P20.2, R7: a token that is there, or went (by time, by Close, by MsgClose), is drawn again.
func TestHelloDrawTwice(t *testing.T) {
	s := goneEachWay(t)
	for range 3 {
		for _, draw := range []uint64{1, 2, 3, 4} {
			expectReset(t, s, hello(0, api.Cbor), draw, 6, api.ErrTwice)
		}
		expectLive(t, s, 4)
		expectGone(t, s, 1, 2, 3)
	}
	begin(t, s, 6, 5)
	expectTick(t, s, lastTick, 4, 5)
	for draw := uint64(1); draw <= 5; draw++ {
		expectReset(t, s, hello(0, api.Json), draw, lastTick, api.ErrTwice)
	}
	begin(t, s, lastTick, 6)
	expectLive(t, s, 6)
}

// P20.2, R7: a draw that was refused is nobody's token, and may be drawn again.
func TestHelloRefusedDrawIsFree(t *testing.T) {
	s := made(t, 1, 5)
	expectReset(t, s, api.Msg{Kind: api.MsgPing, Format: api.Json}, 7, 0, api.ErrKind)
	expectReset(t, s, hello(0, 0), 7, 0, api.ErrKind)
	expectReset(t, s, hello(8, api.Json), 7, 0, api.ErrNone)
	begin(t, s, 0, 1)
	expectReset(t, s, hello(0, api.Json), 7, 0, api.ErrBusy)
	expectReset(t, s, hello(0, api.Json), 8, 0, api.ErrBusy)
	expectGone(t, s, 7, 8)
	expectClose(t, s, 1, 0, api.OK)
	begin(t, s, 0, 7)
	expectClose(t, s, 7, 0, api.OK)
	begin(t, s, 0, 8)
}

// P20.2, P20.5: a full table takes no new session, at each size; as soon as one went, by each way, it takes one more.
func TestBusy(t *testing.T) {
	for most := 1; most <= mostSessions; most++ {
		s := made(t, most, 5)
		begin(t, s, 0, upTo(1, uint64(most))...)
		next := uint64(most) + 1
		for i, ends := range []func(){
			func() { expectClose(t, s, 1, 0, api.OK) },
			func() { expectHear(t, s, bye(uint64(most)+1, 1), 0, api.OK) },
		} {
			expectReset(t, s, hello(0, api.Json), next, 0, api.ErrBusy)
			expectReset(t, s, hello(0, api.Cbor), math.MaxUint64, 0, api.ErrBusy)
			expectCount(t, s, most)
			ends()
			expectCount(t, s, most-1)
			begin(t, s, 0, next)
			expectCount(t, s, most)
			next = uint64(most) + 2 + uint64(i)
		}
		expectReset(t, s, hello(0, api.Json), next, 5, api.ErrBusy)
		begin(t, s, 6, next)
		expectLive(t, s, next)
	}
}

// P20.2: a Hello of a token that there is not, or that went, is refused.
func TestHelloOfNone(t *testing.T) {
	s := made(t, 3, 5)
	for _, token := range []uint64{1, 7, math.MaxUint64} {
		expectReset(t, s, hello(token, api.Json), 7, 0, api.ErrNone)
		expectReset(t, s, hello(token, api.Json), 0, 0, api.ErrNone)
	}
	expectCount(t, s, 0)
	s = goneEachWay(t)
	for _, token := range []uint64{1, 2, 3, 5} {
		expectReset(t, s, hello(token, api.Cbor), token, 6, api.ErrNone)
		expectReset(t, s, hello(token, api.Cbor), 9, 6, api.ErrNone)
	}
	expectLive(t, s, 4)
	begin(t, s, 6, 9)
}

// R1: where several errors apply to a Hello, the one named first is answered.
func TestHelloErrorNamedFirst(t *testing.T) {
	s := made(t, 2, 5)
	begin(t, s, 0, 1, 2)
	for _, draw := range []uint64{0, 1, 2, 3} {
		for _, token := range []uint64{0, 1, 3} {
			expectReset(t, s, api.Msg{Kind: api.MsgData, Token: token, Format: 3}, draw, 0, api.ErrKind)
			expectReset(t, s, api.Msg{Kind: api.MsgWelcome, Token: token, Format: api.Json}, draw, 0, api.ErrKind)
			expectReset(t, s, hello(token, 3), draw, 0, api.ErrKind)
		}
		expectReset(t, s, hello(3, api.Json), draw, 0, api.ErrNone)
	}
	expectReset(t, s, hello(0, api.Json), 0, 0, api.ErrArg)
	expectReset(t, s, hello(0, api.Json), 1, 0, api.ErrTwice)
	expectReset(t, s, hello(0, api.Json), 3, 0, api.ErrBusy)
	expectClose(t, s, 1, 0, api.OK)
	begin(t, s, 0, 3)
	expectReset(t, s, hello(0, api.Json), 1, 0, api.ErrTwice)
	expectLive(t, s, 2, 3)
}

// P20.3: a session is heard of by messages of all kinds but one; its epoch and its format stay, whatever the message has.
func TestHearEachKind(t *testing.T) {
	for _, kind := range otherKinds() {
		s := made(t, 2, 5)
		expectWelcome(t, s, hello(0, api.Cbor), 7, 0, 7, 1)
		begin(t, s, 0, 8)
		m := api.Msg{Kind: kind, Token: 7, Epoch: 1, Seq: 4, Ack: 3, Bits: 2, Credit: 1, Format: api.Json, Load: []byte("a")}
		expectHear(t, s, m, 3, api.OK)
		if kind == kindClose {
			expectLive(t, s, 8)
			expectGone(t, s, 7)
			expectHear(t, s, m, 3, api.ErrNone)
			continue
		}
		expectFind(t, s, 7, 1, api.Cbor)
		expectTick(t, s, 8, 8)
		expectFind(t, s, 7, 1, api.Cbor)
		expectTick(t, s, 9, 7)
	}
	s := made(t, 1, 5)
	begin(t, s, 0, 7)
	expectHear(t, s, api.Msg{Kind: kindHello, Token: 7, Epoch: 1, Format: api.Cbor}, 5, api.OK)
	expectLive(t, s, 7)
	expectTick(t, s, 10)
	expectTick(t, s, 11, 7)
}

// P20.3, R7: messages of earlier and of later epochs are refused, at each epoch: the session is not heard of by them, nor goes.
func TestHearEpochs(t *testing.T) {
	for epoch := 1; epoch <= 6; epoch++ {
		s := made(t, 1, 5)
		begin(t, s, 0, 7)
		for e := 2; e <= epoch; e++ {
			expectWelcome(t, s, hello(7, api.Json), 0, 0, 7, e)
		}
		for _, old := range []int{0, 1, epoch - 1, -1, -epoch, math.MinInt, math.MinInt + 1} {
			if old < epoch {
				expectHear(t, s, ping(7, old), 5, api.ErrOld)
				expectHear(t, s, bye(7, old), 5, api.ErrOld)
			}
		}
		for _, later := range []int{epoch + 1, epoch + 2, 1<<32 + epoch, 1 << 62, math.MaxInt} {
			expectHear(t, s, ping(7, later), 5, api.ErrState)
			expectHear(t, s, bye(7, later), 5, api.ErrState)
		}
		expectFind(t, s, 7, epoch, api.Json)
		expectTick(t, s, 6, 7)
	}
}

// P20.3: messages of tokens that there are not, or that went, are refused, whatever their epoch.
func TestHearOfNone(t *testing.T) {
	s := goneEachWay(t)
	for _, token := range []uint64{0, 1, 2, 3, 5, math.MaxUint64} {
		for _, epoch := range []int{-1, 0, 1, 2, math.MaxInt, math.MinInt} {
			expectHear(t, s, ping(token, epoch), 6, api.ErrNone)
			expectHear(t, s, bye(token, epoch), 6, api.ErrNone)
		}
	}
	expectLive(t, s, 4)
}

// P20.3: Close, of each place in the order, once and twice, and of none; the others stay.
func TestClose(t *testing.T) {
	for _, token := range []uint64{1, 2, 3} {
		s := made(t, 3, 5)
		expectClose(t, s, token, 0, api.ErrNone)
		begin(t, s, 0, 1, 2, 3)
		for _, none := range []uint64{0, 4, math.MaxUint64} {
			expectClose(t, s, none, 0, api.ErrNone)
		}
		expectLive(t, s, 1, 2, 3)
		expectClose(t, s, token, 0, api.OK)
		rest := slices.DeleteFunc(upTo(1, 3), func(one uint64) bool { return one == token })
		for range 2 {
			expectClose(t, s, token, 0, api.ErrNone)
			expectLive(t, s, rest...)
			expectGone(t, s, token)
		}
		expectTick(t, s, 6, rest...)
		expectClose(t, s, rest[0], 6, api.ErrNone)
	}
}

// P20.3: Close goes by the token alone, at each epoch.
func TestCloseAnyEpoch(t *testing.T) {
	s := made(t, 1, 5)
	begin(t, s, 0, 7)
	expectWelcome(t, s, hello(7, api.Cbor), 0, 0, 7, 2)
	expectWelcome(t, s, hello(7, api.Cbor), 0, 0, 7, 3)
	expectClose(t, s, 7, 0, api.OK)
	expectCount(t, s, 0)
	expectReset(t, s, hello(7, api.Cbor), 0, 0, api.ErrNone)
}

// P20.3, P20.7: a session that was heard of just idle ticks ago stays, and one tick more ends it; whichever way it was heard of, and from several times on.
func TestIdle(t *testing.T) {
	heard := []func(s *sess.Table, now int){
		func(s *sess.Table, now int) { begin(t, s, now, 7) },
		func(s *sess.Table, now int) {
			begin(t, s, now-1, 7)
			expectHear(t, s, ping(7, 1), now, api.OK)
		},
		func(s *sess.Table, now int) {
			begin(t, s, now-1, 7)
			expectWelcome(t, s, hello(7, api.Json), 0, now, 7, 2)
		},
	}
	for _, idle := range []int{1, 2, 3, 64, mostIdle - 1, mostIdle} {
		for _, from := range []int{1, 5, 1 << 32, lastTick - idle - 1} {
			for _, hears := range heard {
				s := made(t, 1, idle)
				hears(s, from)
				expectTick(t, s, from+idle)
				expectCount(t, s, 1)
				expectTick(t, s, from+idle+1, 7)
				expectCount(t, s, 0)
				expectGone(t, s, 7)
				expectTick(t, s, from+idle+1)
			}
		}
	}
}

// P20.3: at the last tick of all a session stays, however often one asks; one that was not heard of for longer ends.
func TestLastTick(t *testing.T) {
	for _, idle := range []int{1, 2, 1000, mostIdle} {
		s := made(t, 4, idle)
		begin(t, s, lastTick-idle-1, 1)
		begin(t, s, lastTick-idle, 2)
		begin(t, s, lastTick-1, 3)
		begin(t, s, lastTick-1, 4)
		expectTick(t, s, lastTick-1)
		expectTick(t, s, lastTick, 1)
		for _, now := range wrongNows() {
			expectTick(t, s, now)
		}
		expectLive(t, s, 2, 3, 4)
	}
}

// P20.1, P20.3: a now that is no time, and an earlier one, is the table's time: at each call whoever is heard of then is heard of at the table's time, and nobody ends.
func TestNowOfTheTable(t *testing.T) {
	for _, now := range append(wrongNows(), 0, 1, 50, 98, 99) {
		s := made(t, 5, 10)
		begin(t, s, 95, 1)
		begin(t, s, 97, 2, 3, 5)
		expectTick(t, s, 100)
		expectTick(t, s, now)
		begin(t, s, now, 4)
		expectHear(t, s, ping(1, 1), now, api.OK)
		expectWelcome(t, s, hello(2, api.Json), 0, now, 2, 2)
		expectClose(t, s, 5, now, api.OK)
		expectCount(t, s, 4)
		expectTick(t, s, 107)
		expectTick(t, s, 108, 3)
		expectTick(t, s, 110)
		expectTick(t, s, now)
		expectCount(t, s, 3)
		expectTick(t, s, 111, 1, 2, 4)
	}
}

// P20.1: a table's time is 0 at first, also where the first now is no time.
func TestFirstTime(t *testing.T) {
	for _, now := range append(wrongNows(), 0) {
		s := made(t, 2, 10)
		begin(t, s, now, 1)
		expectTick(t, s, 10)
		expectTick(t, s, 11, 1)
	}
}

// P20.3, R7: the time goes on at each call that has a now, also at one that is refused; sessions end by it, ahead of what the call does, and no later Tick tells of them.
func TestTimeGoesOnAtEachCall(t *testing.T) {
	calls := map[string]func(s *sess.Table, now int){
		"Tick":               func(s *sess.Table, now int) { expectTick(t, s, now, 1) },
		"Hello":              func(s *sess.Table, now int) { expectWelcome(t, s, hello(0, api.Json), 3, now, 3, 1) },
		"Hello anew":         func(s *sess.Table, now int) { expectWelcome(t, s, hello(2, api.Json), 0, now, 2, 2) },
		"Hello, ErrKind":     func(s *sess.Table, now int) { expectReset(t, s, ping(2, 1), 3, now, api.ErrKind) },
		"Hello, no format":   func(s *sess.Table, now int) { expectReset(t, s, hello(0, 0), 3, now, api.ErrKind) },
		"Hello, ErrArg":      func(s *sess.Table, now int) { expectReset(t, s, hello(0, api.Json), 0, now, api.ErrArg) },
		"Hello, ErrTwice":    func(s *sess.Table, now int) { expectReset(t, s, hello(0, api.Json), 2, now, api.ErrTwice) },
		"Hello, its own":     func(s *sess.Table, now int) { expectReset(t, s, hello(0, api.Json), 1, now, api.ErrTwice) },
		"Hello, ErrNone":     func(s *sess.Table, now int) { expectReset(t, s, hello(3, api.Json), 4, now, api.ErrNone) },
		"Hello of what ends": func(s *sess.Table, now int) { expectReset(t, s, hello(1, api.Json), 4, now, api.ErrNone) },
		"Hear":               func(s *sess.Table, now int) { expectHear(t, s, ping(2, 1), now, api.OK) },
		"Hear, ErrNone":      func(s *sess.Table, now int) { expectHear(t, s, ping(3, 1), now, api.ErrNone) },
		"Hear of what ends":  func(s *sess.Table, now int) { expectHear(t, s, ping(1, 1), now, api.ErrNone) },
		"Hear, its end":      func(s *sess.Table, now int) { expectHear(t, s, bye(1, 1), now, api.ErrNone) },
		"Hear, its epoch":    func(s *sess.Table, now int) { expectHear(t, s, ping(1, 0), now, api.ErrNone) },
		"Hear, ErrOld":       func(s *sess.Table, now int) { expectHear(t, s, ping(2, 0), now, api.ErrOld) },
		"Hear, ErrState":     func(s *sess.Table, now int) { expectHear(t, s, ping(2, 2), now, api.ErrState) },
		"Hear, MsgClose":     func(s *sess.Table, now int) { expectHear(t, s, bye(2, 1), now, api.OK) },
		"Close":              func(s *sess.Table, now int) { expectClose(t, s, 2, now, api.OK) },
		"Close, ErrNone":     func(s *sess.Table, now int) { expectClose(t, s, 3, now, api.ErrNone) },
		"Close of what ends": func(s *sess.Table, now int) { expectClose(t, s, 1, now, api.ErrNone) },
	}
	for name, call := range calls {
		t.Run(name, func(t *testing.T) {
			s := made(t, 4, 10)
			begin(t, s, 0, 1)
			begin(t, s, 5, 2)
			expectTick(t, s, 10)
			call(s, 11)
			expectGone(t, s, 1)
			expectTick(t, s, 11)
			// At the table's time 11 whoever is begun earlier is heard of then.
			begin(t, s, 4, 9)
			s.Tick(21)
			expectFind(t, s, 9, 1, api.Json)
			s.Tick(22)
			expectGone(t, s, 9)
		})
	}
}

// P20.3, R7: a Hello for which there is no place lets the time go on, too.
func TestTimeGoesOnAtBusy(t *testing.T) {
	s := made(t, 1, 10)
	begin(t, s, 0, 1)
	expectReset(t, s, hello(0, api.Json), 2, 7, api.ErrBusy)
	expectHear(t, s, ping(1, 1), 0, api.OK)
	expectTick(t, s, 17)
	expectTick(t, s, 18, 1)
}

// P20.2, P20.3: a Hello that needs the place of a session gets it at the tick at which that ends, and not at the one ahead.
func TestPlaceOfWhatEnds(t *testing.T) {
	for _, most := range []int{1, 2, 63, mostSessions} {
		for _, idle := range []int{1, 2, 10, mostIdle} {
			s := made(t, most, idle)
			begin(t, s, 0, 1)
			begin(t, s, 1, upTo(2, uint64(most))...)
			expectReset(t, s, hello(0, api.Json), 100, idle, api.ErrBusy)
			expectReset(t, s, hello(0, api.Json), 1, idle, api.ErrTwice)
			expectReset(t, s, hello(0, api.Json), 1, idle+1, api.ErrTwice)
			begin(t, s, idle+1, 100)
			expectCount(t, s, most)
			if most > 1 {
				expectReset(t, s, hello(0, api.Json), 101, idle+1, api.ErrBusy)
				begin(t, s, idle+2, upTo(101, 99+uint64(most))...)
				expectReset(t, s, hello(0, api.Json), 300, idle+2, api.ErrBusy)
			}
			expectCount(t, s, most)
		}
	}
}

// P20.3: a session hears its own Hello, Hear and Close at the last tick at which it is there, and not at the next one.
func TestOwnLastTick(t *testing.T) {
	for _, idle := range []int{1, 2, 10, mostIdle} {
		calls := []func(s *sess.Table, now int) api.Errno{
			func(s *sess.Table, now int) api.Errno {
				_, why := s.Hello(hello(1, api.Json), 0, now)
				return why
			},
			func(s *sess.Table, now int) api.Errno { return s.Hear(ping(1, 1), now) },
			func(s *sess.Table, now int) api.Errno { return s.Hear(bye(1, 1), now) },
			func(s *sess.Table, now int) api.Errno { return s.Close(1, now) },
		}
		for i, call := range calls {
			s := made(t, 1, idle)
			begin(t, s, 3, 1)
			if why := call(s, 3+idle); why != api.OK {
				t.Fatalf("idle %d, call %d: %v at the last tick", idle, i, why)
			}
			expectCount(t, s, []int{1, 1, 0, 0}[i])
			s = made(t, 1, idle)
			begin(t, s, 3, 1)
			if why := call(s, 4+idle); why != api.ErrNone {
				t.Fatalf("idle %d, call %d: %v behind the last tick", idle, i, why)
			}
			expectCount(t, s, 0)
		}
	}
}

// P20.3: several sessions that end at one Tick are told in the order in which they were begun, whatever their tokens are, whoever was heard of last, and whichever went ahead of it.
func TestTickOrder(t *testing.T) {
	s := made(t, 8, 10)
	begin(t, s, 0, 9, 2)
	begin(t, s, 1, 7)
	begin(t, s, 2, math.MaxUint64, 1)
	begin(t, s, 3, 5, 8, 3)
	expectHear(t, s, ping(9, 1), 4, api.OK)
	expectWelcome(t, s, hello(1, api.Cbor), 0, 5, 1, 2)
	expectHear(t, s, ping(7, 1), 6, api.OK)
	expectHear(t, s, ping(9, 1), 6, api.OK)
	expectClose(t, s, 8, 6, api.OK)
	begin(t, s, 6, 4)
	expectTick(t, s, 12, 2)
	expectTick(t, s, 14, math.MaxUint64, 5, 3)
	begin(t, s, 14, 6)
	expectHear(t, s, ping(7, 1), 14, api.OK)
	expectTick(t, s, 25, 9, 7, 1, 4, 6)
	expectCount(t, s, 0)
	expectTick(t, s, lastTick)
}

// P20.3: a whole table that ends at one Tick, begun from the lowest token, from the highest, and mixed.
func TestTickOrderOfFullTable(t *testing.T) {
	for most := 1; most <= mostSessions; most++ {
		for _, step := range []uint64{1, 1<<64 - 1, 37} {
			var tokens []uint64
			for i := range uint64(most) {
				tokens = append(tokens, 1000+(i*step)%1000003)
			}
			s := made(t, most, 3)
			for i, token := range tokens {
				begin(t, s, i%3, token)
			}
			for i := most - 1; i >= 0; i-- {
				expectHear(t, s, ping(tokens[i], 1), 3, api.OK)
			}
			expectTick(t, s, 6)
			expectTick(t, s, 7, tokens...)
			expectTick(t, s, 7)
			expectCount(t, s, 0)
		}
	}
}

// P20.3: Find and Live are of the table's time: nobody ends without a call that has a now, and asking turns nothing.
func TestAskingTurnsNothing(t *testing.T) {
	s := made(t, 2, 1)
	begin(t, s, 0, 1)
	begin(t, s, 1, 2)
	for range 10 {
		expectLive(t, s, 1, 2)
		expectGone(t, s, 0, 3)
	}
	expectTick(t, s, 2, 1)
	for range 10 {
		expectLive(t, s, 2)
		expectGone(t, s, 0, 1, 3)
	}
	expectTick(t, s, 3, 2)
}

// P20.4, R5: a nil table and one that New did not give, at each method, in any order, at right and wrong arguments.
func TestNotMade(t *testing.T) {
	for _, s := range []*sess.Table{nil, {}, new(sess.Table)} {
		for range 3 {
			for _, now := range append(wrongNows(), 0, 5, lastTick) {
				for _, token := range []uint64{0, 1, 7, math.MaxUint64} {
					for _, draw := range []uint64{0, 1, 7} {
						expectReset(t, s, hello(token, api.Json), draw, now, api.ErrNil)
						expectReset(t, s, hello(token, 3), draw, now, api.ErrNil)
						expectReset(t, s, api.Msg{Kind: api.MsgPing, Token: token, Epoch: 3, Seq: 4, Load: []byte("a")}, draw, now, api.ErrNil)
					}
					expectHear(t, s, ping(token, 1), now, api.ErrNil)
					expectHear(t, s, bye(token, 0), now, api.ErrNil)
					expectClose(t, s, token, now, api.ErrNil)
					expectGone(t, s, token)
				}
				expectTick(t, s, now)
				expectCount(t, s, 0)
			}
		}
	}
}

// P20.5, P20.6: an epoch is how often its session was welcomed, whatever else happens to it and to others, and there are never more than most.
func TestEpochsAreWelcomes(t *testing.T) {
	c := chance(206)
	for row := range 300 {
		most := 1 + row%7
		s := made(t, most, 4)
		welcomes := map[uint64]int{}
		for now := range 120 {
			token := 1 + uint64(c.below(12))
			m := hello(0, 1+c.below(2))
			if c.below(2) == 0 {
				m.Token = token
			}
			switch c.below(4) {
			case 0:
				s.Hear(api.Msg{Kind: c.of(0, 1, 2, 3, 4, 5, 6, 7), Token: token, Epoch: c.below(4)}, now)
			case 1:
				s.Hello(api.Msg{Kind: c.of(otherKinds()...), Token: token, Format: 1}, token, now)
			default:
				if answer, why := s.Hello(m, token, now); why == api.OK {
					welcomes[answer.Token]++
				}
			}
			for token := range uint64(13) {
				if epoch, _, ok := s.Find(token); ok && epoch != welcomes[token] {
					t.Fatalf("row %d: token %d has the epoch %d, not %d", row, token, epoch, welcomes[token])
				}
			}
			if s.Live() > most {
				t.Fatalf("row %d: %d are live, of %d", row, s.Live(), most)
			}
		}
	}
}

// P20.7: whoever is heard of at least each idle ticks stays, by Hear and by Hello, while others come and go.
func TestWhoeverIsHeardStays(t *testing.T) {
	c := chance(207)
	for _, idle := range []int{1, 2, 3, 10, 1000, mostIdle} {
		s := made(t, 3, idle)
		begin(t, s, 0, 1, 2)
		now, epoch := 0, 1
		for round := range 400 {
			now += idle - c.below(2)*c.below(idle)
			expectHear(t, s, ping(1, 1), now, api.OK)
			if round%3 == 0 {
				epoch++
				expectWelcome(t, s, hello(2, api.Json), 0, now, 2, epoch)
			} else {
				expectHear(t, s, ping(2, epoch), now, api.OK)
			}
			if round%2 == 0 {
				s.Hello(hello(0, api.Cbor), uint64(round)+3, now)
			}
			for _, ended := range s.Tick(now) {
				if ended < 3 {
					t.Fatalf("idle %d: %d ends at %d", idle, ended, now)
				}
			}
		}
		expectFind(t, s, 1, 1, api.Json)
		expectFind(t, s, 2, epoch, api.Json)
		expectGone(t, s, 3, 5, 7)
	}
}

// R4: no call writes into a message that it is handed, or keeps its bytes.
func TestArgumentsStay(t *testing.T) {
	s := made(t, 2, 5)
	load := []byte("load")
	for _, m := range []api.Msg{
		{Kind: kindHello, Format: api.Json, Load: load},
		{Kind: kindHello, Token: 1, Format: api.Json, Load: load},
		{Kind: kindHello, Token: 9, Format: api.Json, Load: load},
		{Kind: api.MsgData, Load: load},
	} {
		answer, _ := s.Hello(m, 1, 0)
		if len(answer.Load) != 0 || cap(answer.Load) != 0 {
			t.Fatalf("Hello answers the bytes %q", answer.Load)
		}
		s.Hear(api.Msg{Kind: api.MsgData, Token: 1, Epoch: 2, Load: load}, 0)
		if !bytes.Equal(load, []byte("load")) {
			t.Fatalf("the bytes are %q", load)
		}
	}
	copy(load, "xxxx")
	expectFind(t, s, 1, 2, api.Json)
}

// R4: what Tick answers may be written over, and longer, and turns nothing.
func TestAnswersAreTheCallers(t *testing.T) {
	for most := 2; most <= 9; most++ {
		s := made(t, most, 5)
		begin(t, s, 0, upTo(1, uint64(most)-1)...)
		begin(t, s, 3, uint64(most))
		first := s.Tick(6)
		for i := range first {
			first[i] = uint64(most)
		}
		first = append(first, 50, 51)
		expectLive(t, s, uint64(most))
		for token := range uint64(most) {
			if token > 0 {
				expectReset(t, s, hello(0, api.Json), token, 6, api.ErrTwice)
			}
		}
		begin(t, s, 6, upTo(50, 48+uint64(most))...)
		second := s.Tick(9)
		if !slices.Equal(second, []uint64{uint64(most)}) {
			t.Fatalf("Tick is %v", second)
		}
		second[0] = 50
		if first[0] != uint64(most) {
			t.Fatalf("two answers share their numbers: %v", first)
		}
		expectTick(t, s, 12, upTo(50, 48+uint64(most))...)
	}
}

// R3: several tables know nothing of one another.
func TestTablesApart(t *testing.T) {
	one, two, three := made(t, 1, 5), made(t, 2, 50), made(t, 2, 5)
	begin(t, one, 0, 7)
	begin(t, two, 0, 7, 8)
	expectWelcome(t, two, hello(7, api.Cbor), 0, 0, 7, 2)
	expectLive(t, one, 7)
	expectCount(t, three, 0)
	begin(t, three, 0, 8)
	expectClose(t, one, 7, 0, api.OK)
	expectFind(t, two, 7, 2, api.Cbor)
	expectTick(t, one, 100)
	expectTick(t, three, 5)
	expectTick(t, three, 6, 8)
	expectTick(t, two, 50)
	begin(t, one, 0, 8)
	begin(t, three, 0, 7)
	expectTick(t, two, 51, 7, 8)
	expectLive(t, one, 8)
	expectLive(t, three, 7)
}

// P20.1 to P20.7: all rows of five acts out of some at small tables, held against the model.
func TestAllShortRows(t *testing.T) {
	acts := []func(b *both){
		func(b *both) { b.now++ },
		func(b *both) { b.tick(b.now) },
		func(b *both) { b.tick(b.now + 1) },
		func(b *both) { b.hello(hello(0, 1), 1, b.now) },
		func(b *both) { b.hello(hello(0, 2), 2, b.now) },
		func(b *both) { b.hello(hello(0, 1), 3, b.now+1) },
		func(b *both) { b.hello(hello(1, 2), 3, b.now) },
		func(b *both) { b.hello(hello(2, 1), 3, b.now+1) },
		func(b *both) { b.hear(ping(1, 1), b.now) },
		func(b *both) { b.hear(ping(1, 2), b.now+1) },
		func(b *both) { b.hear(ping(2, 1), b.now) },
		func(b *both) { b.hear(bye(1, 1), b.now) },
		func(b *both) { b.close(2, b.now) },
	}
	rows := 1
	for range 5 {
		rows *= len(acts)
	}
	for _, size := range [][2]int{{1, 1}, {1, 2}, {2, 1}, {2, 2}} {
		for row := range rows {
			b := newBoth(t, size[0], size[1])
			rest := row
			for range 5 {
				acts[rest%len(acts)](b)
				rest /= len(acts)
			}
			b.tick(b.now + 1)
			b.tick(b.now + 4)
		}
	}
}

// P20.1 to P20.7, R1, R7: long rows of any calls, right and wrong ones, held against the model.
func TestChanceAgainstModel(t *testing.T) {
	c := chance(2020)
	for row := range 700 {
		b := newBoth(t, 1+row%mostSessions, c.of(1, 2, 3, 5, 20, 1000, mostIdle))
		if row%10 == 0 {
			b.tick(lastTick - c.below(2*b.m.idle))
		}
		for range 250 {
			c.call(b)
		}
		b.tick(lastTick)
	}
}

// R7: calls that are refused at the table's time, anywhere in a row of calls, turn no later answer.
func TestRefusedTurnsNothing(t *testing.T) {
	c := chance(77)
	for row := range 300 {
		b := newBoth(t, 1+row%9, c.of(1, 2, 5, 20))
		for range 120 {
			c.call(b)
			// The model is not asked: it stays as it was.
			now := c.of(append(wrongNows(), b.m.time, 0)...)
			expectReset(t, b.s, api.Msg{Kind: c.of(otherKinds()...), Format: 1}, c.next(), now, api.ErrKind)
			expectReset(t, b.s, hello(0, c.of(wrongFormats()...)), c.next(), now, api.ErrKind)
			expectReset(t, b.s, hello(0, 1), 0, now, api.ErrArg)
			for _, one := range b.m.lives {
				expectReset(t, b.s, hello(0, 2), one.token, now, api.ErrTwice)
				if one.gone {
					expectReset(t, b.s, hello(one.token, 2), c.next(), now, api.ErrNone)
					expectHear(t, b.s, ping(one.token, one.epoch), now, api.ErrNone)
					expectClose(t, b.s, one.token, now, api.ErrNone)
				} else {
					expectHear(t, b.s, bye(one.token, one.epoch-1), now, api.ErrOld)
					expectHear(t, b.s, bye(one.token, one.epoch+1), now, api.ErrState)
				}
			}
			if len(b.m.live()) == b.m.most {
				expectReset(t, b.s, hello(0, 1), 1<<40+7, now, api.ErrBusy)
			}
			expectTick(t, b.s, now)
			b.hold()
		}
		b.tick(lastTick)
	}
}

// R3: the same calls have the same answers, in the same order.
func TestSameAnswers(t *testing.T) {
	for seed := range 50 {
		one, two := made(t, mostSessions, 20), made(t, mostSessions, 20)
		c := chance(seed + 1)
		for now := range 300 {
			token := c.next()
			for _, s := range []*sess.Table{one, two} {
				if now%7 < 5 {
					s.Hello(hello(0, 1), token, now)
				}
			}
			if now%7 < 6 {
				continue
			}
			if a, b := one.Tick(now), two.Tick(now); !slices.Equal(a, b) {
				t.Fatalf("%v and %v", a, b)
			}
		}
	}
}
