package send_test

import (
	"bytes"
	"math"
	"slices"
	"testing"

	"gantline/api"
	"gantline/send"
)

// wrongTimes are times that may not be.
func wrongTimes() []int {
	return []int{-1, -2, -mostTime, math.MinInt, mostTime + 1, mostTime + 2, 2 * mostTime, 1 << 62, math.MaxInt}
}

// wrongCredits are credits that may not be.
func wrongCredits() []int {
	return []int{-1, -2, -mostCredit, math.MinInt, mostCredit + 1, mostCredit + 2, math.MaxInt}
}

// wrongAcks are acks that may not be, behind so many loads.
func wrongAcks(last int) []int {
	return []int{-1, -2, math.MinInt, last + 1, last + 2, last + 64, 1 << 32, 1<<32 + last, 1 << 62, math.MaxInt}
}

// The document's example.
func TestExample(t *testing.T) {
	s := pushedAt(t, 2, 2, 2, 0)
	expectDue(t, s, 0, 1, 2)
	expectDue(t, s, 1, 1, 2)
	expectDue(t, s, 3, 1, 2)
	expectErrno(t, "Ack", s.Ack(1, 0, 3), api.OK)
	expectState(t, s, 1, 2, 3, 3)
}

// P17.1, P17.5: each window that may be has a sender without loads.
func TestNew(t *testing.T) {
	for window := 1; window <= mostWindow; window++ {
		s := made(t, window)
		expectState(t, s, 0, 1, 1, 0)
		expectDue(t, s, 0)
		expectDue(t, s, mostTime)
	}
}

// P17.1: windows that may not be.
func TestNewWrong(t *testing.T) {
	for _, window := range []int{0, -1, -2, -32, 33, 34, 64, 256 + 1, 1<<32 + 1, math.MaxInt, math.MinInt, math.MinInt + 1} {
		if s, why := send.New(window); s != nil || why != api.ErrArg {
			t.Errorf("New(%d) is %v, %v", window, s, why)
		}
	}
}

// P17.1: loads are numbered from 1 on, also behind ones that are done.
func TestPushNumbers(t *testing.T) {
	s := made(t, 3)
	expectErrno(t, "Ack", s.Ack(0, 0, 100), api.OK)
	for n := 1; n <= 100; n++ {
		expectPush(t, s, named(n), n, n, api.OK)
		expectState(t, s, min(n, 2), max(1, n-1), n+1, 100)
		expectErrno(t, "Ack", s.Ack(n-1, 0, 0), api.OK)
		expectState(t, s, 1, n, n+1, 100)
	}
	expectPush(t, s, nil, 100, 0, api.ErrWait)
}

// P17.1, P17.6: without credit nothing is pushed; with some just as many as it says.
func TestPushLimit(t *testing.T) {
	for limit := range mostWindow {
		s := pushedAt(t, mostWindow, limit, limit, 0)
		for range 3 {
			expectPush(t, s, named(0), 0, 0, api.ErrWait)
			expectState(t, s, limit, 1, limit+1, limit)
		}
		expectErrno(t, "Ack", s.Ack(0, 0, limit+1), api.OK)
		expectPush(t, s, named(limit+1), 0, limit+1, api.OK)
		expectPush(t, s, named(0), 0, 0, api.ErrWait)
		expectDue(t, s, 0, upTo(1, limit+1)...)
	}
}

// P17.1, P17.6: a window is full with as many loads as it has, from the base on, whatever came beyond a gap.
func TestPushWindow(t *testing.T) {
	for window := 1; window <= mostWindow; window++ {
		s := pushedAt(t, window, 1000, window, 0)
		expectPush(t, s, named(0), 0, 0, api.ErrWait)
		expectState(t, s, window, 1, window+1, 1000)
		expectErrno(t, "Ack of all but the first", s.Ack(0, math.MaxUint64, 0), api.OK)
		expectPush(t, s, named(0), 0, 0, api.ErrWait)
		expectState(t, s, window, 1, window+1, 1000)
		expectErrno(t, "Ack", s.Ack(1, 0, 0), api.OK)
		expectState(t, s, 0, window+1, window+1, 1000)
		for n := window + 1; n <= 2*window; n++ {
			expectPush(t, s, named(n), 0, n, api.OK)
		}
		expectPush(t, s, named(0), 0, 0, api.ErrWait)
		expectErrno(t, "Ack", s.Ack(window+1, 0, 0), api.OK)
		expectPush(t, s, named(2*window+1), 0, 2*window+1, api.OK)
		expectPush(t, s, named(0), 0, 0, api.ErrWait)
		expectDue(t, s, 0, upTo(window+2, 2*window+1)...)
	}
}

// P17.1: the first and the last time that may be, and those that may not.
func TestPushTimes(t *testing.T) {
	s := pushedAt(t, 4, 4, 0, 0)
	for i, now := range []int{0, 1, mostTime - 1, mostTime} {
		expectPush(t, s, named(i+1), now, i+1, api.OK)
	}
	expectDue(t, s, 0, 1)
	expectDue(t, s, 1, 1, 2)
	expectDue(t, s, mostTime-1, 1, 2, 3)
	expectDue(t, s, mostTime, 3, 4)
	for _, now := range wrongTimes() {
		s := pushedAt(t, 2, 2, 1, 0)
		expectPush(t, s, named(2), now, 0, api.ErrArg)
		expectState(t, s, 1, 1, 2, 2)
		expectPush(t, s, named(2), 0, 2, api.OK)
		expectDue(t, s, 0, 1, 2)
	}
}

// P17.1, P17.7: loads of each length that may be are told as they are; longer ones are refused.
func TestPushLengths(t *testing.T) {
	for n := 0; n <= mostLoad; n++ {
		load := bytes.Repeat([]byte{byte(n)}, n)
		s := pushedAt(t, 1, 1, 0, 0)
		expectPush(t, s, load, 0, 1, api.OK)
		if got := s.Due(0); !sameMsgs(got, []api.Msg{{Kind: api.MsgData, Seq: 1, Load: load}}) {
			t.Fatalf("a load of %d bytes: %v", n, got)
		}
	}
	for _, n := range []int{mostLoad + 1, mostLoad + 2, 1208, 4096, 1 << 16, 1<<16 + 1, 1 << 20} {
		s := pushedAt(t, 1, 1, 0, 0)
		expectPush(t, s, make([]byte, n), 0, 0, api.ErrMany)
		expectState(t, s, 0, 1, 1, 1)
		expectDue(t, s, 0)
	}
}

// P17.1, R6: a load that is nil and one that is empty are both a load of no bytes, which has a number.
func TestPushNothing(t *testing.T) {
	s := pushedAt(t, 2, 2, 0, 0)
	expectPush(t, s, nil, 0, 1, api.OK)
	expectPush(t, s, []byte{}, 0, 2, api.OK)
	if got := s.Due(0); !sameMsgs(got, []api.Msg{{Kind: api.MsgData, Seq: 1}, {Kind: api.MsgData, Seq: 2}}) {
		t.Fatal(got)
	}
}

// R1: of a time, a load and a room that may not be, the one named first is answered.
func TestPushErrorNamedFirst(t *testing.T) {
	long := make([]byte, mostLoad+1)
	noCredit, full := made(t, 2), pushedAt(t, 1, 5, 1, 0)
	for _, s := range []*send.Sender{noCredit, full} {
		expectPush(t, s, long, -1, 0, api.ErrArg)
		expectPush(t, s, long, mostTime+1, 0, api.ErrArg)
		expectPush(t, s, nil, -1, 0, api.ErrArg)
		expectPush(t, s, nil, mostTime+1, 0, api.ErrArg)
		expectPush(t, s, long, 0, 0, api.ErrMany)
		expectPush(t, s, long, mostTime, 0, api.ErrMany)
		expectPush(t, s, nil, 0, 0, api.ErrWait)
	}
	expectState(t, noCredit, 0, 1, 1, 0)
	expectState(t, full, 1, 1, 2, 5)
	open := pushedAt(t, 2, 2, 1, 0)
	expectPush(t, open, long, -1, 0, api.ErrArg)
}

// toldAt are the times, asked each tick, at which the load of a number is told.
func toldAt(s *send.Sender, number, from, to int) []int {
	var at []int
	for now := from; now <= to; now++ {
		if slices.Contains(numbers(s.Due(now)), number) {
			at = append(at, now)
		}
	}
	return at
}

// P17.2: asked each tick, a load is told with waits of 1, 2, 4, 8, 16, 32, 64, and 64 from then on.
func TestDueWaits(t *testing.T) {
	waits := []int{0, 1, 3, 7, 15, 31, 63, 127, 191, 255, 319, 383, 447}
	for _, from := range []int{0, 1, 5, 1 << 32, mostTime - 450} {
		s := pushedAt(t, 1, 1, 1, from)
		var want []int
		for _, wait := range waits {
			want = append(want, from+wait)
		}
		if got := toldAt(s, 1, max(0, from-5), from+450); !slices.Equal(got, want) {
			t.Errorf("pushed at %d, told at %v: not %v", from, got, want)
		}
	}
}

// P17.2: the wait begins at the time at which a load is told, be that late.
func TestDueLate(t *testing.T) {
	s := pushedAt(t, 1, 1, 1, 0)
	expectDue(t, s, 10, 1)
	expectDue(t, s, 10)
	expectDue(t, s, 11, 1)
	expectDue(t, s, 12)
	expectDue(t, s, 100, 1)
	expectDue(t, s, 103)
	expectDue(t, s, 104, 1)
	expectDue(t, s, 111)
	expectDue(t, s, 112, 1)
	expectDue(t, s, 127)
	expectDue(t, s, 1000, 1)
	expectDue(t, s, 1031)
	expectDue(t, s, 1032, 1)
	expectDue(t, s, 1095)
	expectDue(t, s, 1096, 1)
	expectDue(t, s, 1159)
	expectDue(t, s, 1160, 1)
	expectDue(t, s, mostTime-64, 1)
	expectDue(t, s, mostTime-1)
	expectDue(t, s, mostTime, 1)
	expectDue(t, s, mostTime)
}

// P17.2: asked twice at one time, or at an earlier one, nothing is told again, and no wait turns.
func TestDueTwiceAndEarlier(t *testing.T) {
	s := pushedAt(t, 2, 2, 2, 50)
	expectDue(t, s, 49)
	expectDue(t, s, 0)
	for _, now := range []int{50, 51, 53, 57, 65, 81, 113, 177, 241} {
		expectDue(t, s, now, 1, 2)
		expectDue(t, s, now)
		expectDue(t, s, now-1)
		expectDue(t, s, 0)
		expectDue(t, s, now)
	}
}

// P17.2: a load that is pushed at a time earlier than the last one asked is told at once.
func TestDueOfEarlierPush(t *testing.T) {
	s := pushedAt(t, 3, 3, 1, 10)
	expectDue(t, s, 20, 1)
	expectPush(t, s, named(2), 5, 2, api.OK)
	expectPush(t, s, named(3), 6, 3, api.OK)
	expectDue(t, s, 4)
	expectDue(t, s, 5, 2)
	expectDue(t, s, 6, 2, 3)
	expectDue(t, s, 21, 1, 2, 3)
}

// P17.2: of times that may not be nothing is told, and nothing turns.
func TestDueWrongTimes(t *testing.T) {
	for _, now := range wrongTimes() {
		s := pushedAt(t, 2, 2, 2, 0)
		expectDue(t, s, now)
		expectState(t, s, 2, 1, 3, 2)
		expectDue(t, s, 0, 1, 2)
		expectDue(t, s, now)
		expectDue(t, s, 0)
		expectDue(t, s, 1, 1, 2)
		expectDue(t, s, now)
		expectDue(t, s, 2)
		expectDue(t, s, 3, 1, 2)
	}
}

// P17.2: loads are told by number, whatever their times are, all of a full window.
func TestDueByNumber(t *testing.T) {
	for range 20 {
		s := pushedAt(t, mostWindow, 1000, 0, 0)
		for n := 1; n <= mostWindow; n++ {
			expectPush(t, s, named(n), 100-n, n, api.OK)
		}
		for now := 68; now < 100; now++ {
			for _, n := range numbers(s.Due(now)) {
				if n < 100-now {
					t.Fatalf("Due(%d) tells %d", now, n)
				}
			}
		}
		expectDue(t, s, 1000, upTo(1, mostWindow)...)
	}
	s := pushedAt(t, mostWindow, 1000, mostWindow, 0)
	expectDue(t, s, 0, upTo(1, mostWindow)...)
	expectErrno(t, "Ack", s.Ack(20, 0, 0), api.OK)
	for n := mostWindow + 1; n <= mostWindow+20; n++ {
		expectPush(t, s, named(n), 1, n, api.OK)
	}
	expectDue(t, s, 1, upTo(21, mostWindow+20)...)
}

// P17.2: each load has a time and a wait of its own.
func TestDueOfOwnTimes(t *testing.T) {
	s := pushedAt(t, 3, 3, 1, 0)
	expectDue(t, s, 0, 1)
	expectDue(t, s, 1, 1)
	expectPush(t, s, named(2), 2, 2, api.OK)
	expectDue(t, s, 2, 2)
	expectPush(t, s, named(3), 7, 3, api.OK)
	expectDue(t, s, 3, 1, 2)
	expectDue(t, s, 5, 2)
	expectDue(t, s, 7, 1, 3)
	expectDue(t, s, 8, 3)
	expectDue(t, s, 9, 2)
	expectDue(t, s, 10, 3)
	expectDue(t, s, 14, 3)
	expectDue(t, s, 15, 1)
	expectDue(t, s, 17, 2)
}

// P17.3: acks one by one, and of many at once; what is done is told no more.
func TestAckNumbers(t *testing.T) {
	for window := 1; window <= mostWindow; window++ {
		s := pushedAt(t, window, window, window, 0)
		for ack := range window + 1 {
			expectErrno(t, "Ack", s.Ack(ack, 0, 0), api.OK)
			expectState(t, s, window-ack, ack+1, window+1, window)
			expectDue(t, s, 100*ack, upTo(ack+1, window)...)
		}
		for ack := range window + 1 {
			s := pushedAt(t, window, window, window, 0)
			expectErrno(t, "Ack", s.Ack(ack, 0, 0), api.OK)
			expectState(t, s, window-ack, ack+1, window+1, window)
			expectDue(t, s, 0, upTo(ack+1, window)...)
		}
	}
}

// P17.3: an ack that is earlier than the last one ends nothing, and gives nothing back.
func TestAckOld(t *testing.T) {
	s := pushedAt(t, 8, 8, 8, 0)
	expectErrno(t, "Ack", s.Ack(5, 0, 0), api.OK)
	for ack := range 6 {
		expectErrno(t, "Ack", s.Ack(ack, 0, 0), api.OK)
		expectState(t, s, 3, 6, 9, 8)
	}
	expectDue(t, s, 0, 6, 7, 8)
}

// P17.3: an ack turns no time and no wait of what is out.
func TestAckKeepsTimes(t *testing.T) {
	s := pushedAt(t, 4, 4, 4, 0)
	expectDue(t, s, 0, 1, 2, 3, 4)
	expectDue(t, s, 1, 1, 2, 3, 4)
	expectErrno(t, "Ack", s.Ack(1, 1, 9), api.OK)
	expectDue(t, s, 2)
	expectDue(t, s, 3, 2, 4)
	expectErrno(t, "Ack", s.Ack(1, 0, 9), api.OK)
	expectDue(t, s, 6)
	expectDue(t, s, 7, 2, 4)
	expectDue(t, s, 14)
	expectDue(t, s, 15, 2, 4)
}

// P17.3: each bit tells that the number ack and 2 and it came beyond the gap: it is told no more, and is not done.
func TestAckBits(t *testing.T) {
	for ack := range 5 {
		for bit := range 64 {
			s := pushedAt(t, mostWindow, mostWindow, mostWindow, 0)
			expectErrno(t, "Ack", s.Ack(ack, 1<<bit, 0), api.OK)
			expectState(t, s, mostWindow-ack, ack+1, mostWindow+1, mostWindow)
			var want []int
			for n := ack + 1; n <= mostWindow; n++ {
				if n != ack+2+bit {
					want = append(want, n)
				}
			}
			expectDue(t, s, 0, want...)
			expectDue(t, s, 1, want...)
		}
	}
}

// P17.3: the bits of numbers that were not pushed mean nothing, also when these are pushed later.
func TestAckBitsNotPushed(t *testing.T) {
	for pushed := range mostWindow {
		s := pushedAt(t, mostWindow, 100, pushed, 0)
		expectErrno(t, "Ack", s.Ack(pushed, math.MaxUint64, 0), api.OK)
		expectState(t, s, 0, pushed+1, pushed+1, 100)
		for n := pushed + 1; n <= pushed+mostWindow; n++ {
			expectPush(t, s, named(n), 0, n, api.OK)
		}
		expectDue(t, s, 0, upTo(pushed+1, pushed+mostWindow)...)
	}
	s := pushedAt(t, 4, 9, 3, 0)
	expectErrno(t, "Ack", s.Ack(0, math.MaxUint64, 0), api.OK)
	expectPush(t, s, named(4), 0, 4, api.OK)
	expectDue(t, s, 0, 1, 4)
}

// P17.3: the bits of an early ack: those of numbers that are done mean nothing, the last one reaches to ack and 65.
func TestAckBitsFarBehind(t *testing.T) {
	s := pushedAt(t, mostWindow, 1000, 0, 0)
	for n := 1; n <= 40; n++ {
		expectPush(t, s, named(n), 0, n, api.OK)
		expectErrno(t, "Ack", s.Ack(n, 0, 0), api.OK)
	}
	for n := 41; n <= 72; n++ {
		expectPush(t, s, named(n), 0, n, api.OK)
	}
	expectErrno(t, "bits of what is done", s.Ack(0, 1<<39-1, 0), api.OK)
	expectState(t, s, 32, 41, 73, 1000)
	expectErrno(t, "the last bit", s.Ack(0, 1<<63, 0), api.OK)
	expectState(t, s, 32, 41, 73, 1000)
	expectDue(t, s, 0, append(upTo(41, 64), upTo(66, 72)...)...)
	expectErrno(t, "the last bit", s.Ack(2, 1<<63, 0), api.OK)
	expectDue(t, s, 1, append(upTo(41, 64), 66, 68, 69, 70, 71, 72)...)
	expectErrno(t, "all bits", s.Ack(5, math.MaxUint64, 0), api.OK)
	expectState(t, s, 2, 71, 73, 1000)
	expectDue(t, s, 3, 71, 72)
}

// P17.3: where a gap is filled, the base goes on behind all that are there in a row, and no further.
func TestAckFillsGaps(t *testing.T) {
	s := pushedAt(t, 10, 10, 10, 0)
	expectErrno(t, "2, 3, 5, 8 came", s.Ack(0, 0b1001011, 0), api.OK)
	expectState(t, s, 10, 1, 11, 10)
	expectDue(t, s, 0, 1, 4, 6, 7, 9, 10)
	expectErrno(t, "1 came", s.Ack(1, 0, 0), api.OK)
	expectState(t, s, 7, 4, 11, 10)
	expectDue(t, s, 1, 4, 6, 7, 9, 10)
	expectErrno(t, "4 came, told by a bit", s.Ack(1, 0b10, 0), api.OK)
	expectState(t, s, 5, 6, 11, 10)
	expectErrno(t, "7 came", s.Ack(5, 0b1, 0), api.OK)
	expectState(t, s, 5, 6, 11, 10)
	expectDue(t, s, 3, 6, 9, 10)
	expectErrno(t, "6 came", s.Ack(6, 0, 0), api.OK)
	expectState(t, s, 2, 9, 11, 10)
	expectErrno(t, "9 and 10 came", s.Ack(7, 0b11, 0), api.OK)
	expectState(t, s, 0, 11, 11, 10)
	expectDue(t, s, 1000)
}

// P17.3: what is there stays there, if a later ack does not tell of it.
func TestAckThereStays(t *testing.T) {
	s := pushedAt(t, 4, 4, 4, 0)
	expectErrno(t, "Ack", s.Ack(0, 0b10, 0), api.OK)
	expectErrno(t, "Ack", s.Ack(0, 0b100, 0), api.OK)
	expectErrno(t, "Ack", s.Ack(0, 0, 0), api.OK)
	expectDue(t, s, 0, 1, 2)
	expectErrno(t, "Ack", s.Ack(1, 0, 0), api.OK)
	expectDue(t, s, 1, 2)
	expectState(t, s, 3, 2, 5, 4)
	expectErrno(t, "Ack", s.Ack(2, 0, 0), api.OK)
	expectState(t, s, 0, 5, 5, 4)
}

// P17.3: each set of bits over six loads, ahead of each ack: what is told, and where the base is.
func TestAckEachSet(t *testing.T) {
	for ack := range 7 {
		for set := range uint64(1 << 6) {
			s := pushedAt(t, 6, 6, 6, 0)
			expectErrno(t, "Ack", s.Ack(ack, set, 0), api.OK)
			var out []int
			for n := ack + 1; n <= 6; n++ {
				if n == ack+1 || set>>(n-ack-2)&1 == 0 {
					out = append(out, n)
				}
			}
			expectState(t, s, 6-ack, ack+1, 7, 6)
			expectDue(t, s, 0, out...)
			if ack == 6 {
				continue
			}
			base := 7
			if len(out) > 1 {
				base = out[1]
			}
			expectErrno(t, "Ack", s.Ack(ack+1, 0, 0), api.OK)
			expectState(t, s, 7-base, base, 7, 6)
			expectDue(t, s, 1, out[1:]...)
		}
	}
}

// P17.3: credit raises the limit, and never takes it back.
func TestAckCredit(t *testing.T) {
	s := made(t, 4)
	limit := 0
	for _, credit := range []int{0, 1, 0, 1, 3, 2, 1 << 40, 5, mostCredit - 1, 0, mostCredit, mostCredit - 1, 0} {
		expectErrno(t, "Ack", s.Ack(0, 0, credit), api.OK)
		limit = max(limit, credit)
		expectState(t, s, 0, 1, 1, limit)
	}
	for n := 1; n <= 4; n++ {
		expectPush(t, s, named(n), 0, n, api.OK)
	}
	expectPush(t, s, nil, 0, 0, api.ErrWait)
}

// P17.3: the credit of an ack that is old counts, too.
func TestAckCreditOfOld(t *testing.T) {
	s := pushedAt(t, 4, 3, 3, 0)
	expectErrno(t, "Ack", s.Ack(3, 0, 0), api.OK)
	expectErrno(t, "Ack", s.Ack(1, 0, 4), api.OK)
	expectState(t, s, 0, 4, 4, 4)
	expectPush(t, s, named(4), 0, 4, api.OK)
}

// P17.3, R7: acks and credits that may not be turn nothing, whatever is right beside them.
func TestAckWrong(t *testing.T) {
	hold := func(s *send.Sender) {
		expectState(t, s, 3, 2, 5, 6)
		expectDue(t, s, 0, 2, 4)
		expectPush(t, s, named(5), 0, 5, api.OK)
	}
	start := func() *send.Sender {
		s := pushedAt(t, 8, 6, 4, 0)
		expectErrno(t, "Ack", s.Ack(1, 1, 0), api.OK)
		return s
	}
	for _, ack := range wrongAcks(4) {
		s := start()
		expectErrno(t, "a wrong ack", s.Ack(ack, math.MaxUint64, 100), api.ErrArg)
		expectErrno(t, "a wrong ack", s.Ack(ack, 0, 0), api.ErrArg)
		hold(s)
	}
	for _, credit := range wrongCredits() {
		s := start()
		expectErrno(t, "a wrong credit", s.Ack(2, math.MaxUint64, credit), api.ErrArg)
		expectErrno(t, "a wrong credit", s.Ack(4, 0, credit), api.ErrArg)
		expectErrno(t, "both wrong", s.Ack(5, 1, credit), api.ErrArg)
		hold(s)
	}
	s := made(t, 1)
	for _, ack := range wrongAcks(0) {
		expectErrno(t, "an ack of nothing", s.Ack(ack, 0, 1), api.ErrArg)
	}
	expectState(t, s, 0, 1, 1, 0)
}

// P17.4: loads up to the ack are done; all others are out from now on, with a wait of 1.
func TestResume(t *testing.T) {
	for ack := range 7 {
		s := pushedAt(t, 6, 6, 6, 0)
		for _, now := range []int{0, 1, 3, 7, 15} {
			expectDue(t, s, now, upTo(1, 6)...)
		}
		expectErrno(t, "Resume", s.Resume(ack, 9, 100), api.OK)
		expectState(t, s, 6-ack, ack+1, 7, 9)
		expectDue(t, s, 99)
		for _, now := range []int{100, 101, 103, 107, 115, 131, 163, 227, 291} {
			expectDue(t, s, now-1)
			expectDue(t, s, now, upTo(ack+1, 6)...)
		}
	}
}

// P17.4: a time that is earlier than what was told, the first and the last one.
func TestResumeTimes(t *testing.T) {
	for _, now := range []int{0, 1, 50, mostTime - 1, mostTime} {
		s := pushedAt(t, 2, 2, 2, 100)
		expectDue(t, s, 100, 1, 2)
		expectErrno(t, "Resume", s.Resume(1, 2, now), api.OK)
		if now > 0 {
			expectDue(t, s, now-1)
		}
		expectDue(t, s, now, 2)
		expectDue(t, s, now)
	}
}

// P17.4: what came beyond a gap is out again, and the base stays ahead of it.
func TestResumeBehindGap(t *testing.T) {
	s := pushedAt(t, 5, 5, 5, 0)
	expectErrno(t, "2, 3, 5 came", s.Ack(0, 0b1011, 0), api.OK)
	expectDue(t, s, 0, 1, 4)
	expectErrno(t, "Resume", s.Resume(0, 5, 10), api.OK)
	expectState(t, s, 5, 1, 6, 5)
	expectDue(t, s, 10, 1, 2, 3, 4, 5)
	expectErrno(t, "Ack", s.Ack(1, 0, 0), api.OK)
	expectState(t, s, 4, 2, 6, 5)

	s = pushedAt(t, 5, 5, 5, 0)
	expectErrno(t, "2, 3, 5 came", s.Ack(0, 0b1011, 0), api.OK)
	expectErrno(t, "Resume", s.Resume(1, 5, 10), api.OK)
	expectState(t, s, 4, 2, 6, 5)
	expectDue(t, s, 10, 2, 3, 4, 5)
	expectErrno(t, "4 came", s.Ack(1, 0b10, 0), api.OK)
	expectState(t, s, 4, 2, 6, 5)
	expectErrno(t, "2 came", s.Ack(2, 0, 0), api.OK)
	expectState(t, s, 3, 3, 6, 5)
	expectErrno(t, "3 came", s.Ack(3, 0, 0), api.OK)
	expectState(t, s, 1, 5, 6, 5)
	expectDue(t, s, 11, 5)
}

// P17.4: what was done stays done, if the ack is old.
func TestResumeOld(t *testing.T) {
	for ack := range 4 {
		s := pushedAt(t, 5, 5, 5, 0)
		expectErrno(t, "Ack", s.Ack(3, 0, 0), api.OK)
		expectErrno(t, "Resume", s.Resume(ack, 5, 10), api.OK)
		expectState(t, s, 2, 4, 6, 5)
		expectDue(t, s, 10, 4, 5)
	}
	s := pushedAt(t, 5, 5, 5, 0)
	expectErrno(t, "2 and 3 came", s.Ack(0, 0b11, 0), api.OK)
	expectErrno(t, "1 came", s.Ack(1, 0, 0), api.OK)
	expectErrno(t, "Resume", s.Resume(0, 5, 10), api.OK)
	expectState(t, s, 2, 4, 6, 5)
	expectDue(t, s, 10, 4, 5)
}

// P17.4: the limit is the credit, be that less than it was, but no less than the last number pushed.
func TestResumeCredit(t *testing.T) {
	for _, c := range []struct{ credit, limit int }{
		{0, 3}, {1, 3}, {2, 3}, {3, 3}, {4, 4}, {5, 5}, {49, 49}, {50, 50}, {51, 51}, {mostCredit - 1, mostCredit - 1}, {mostCredit, mostCredit},
	} {
		for ack := range 4 {
			s := pushedAt(t, 8, 50, 3, 0)
			expectErrno(t, "Resume", s.Resume(ack, c.credit, 0), api.OK)
			expectState(t, s, 3-ack, ack+1, 4, c.limit)
			for n := 4; n <= min(c.limit, ack+8); n++ {
				expectPush(t, s, named(n), 0, n, api.OK)
			}
			expectPush(t, s, nil, 0, 0, api.ErrWait)
			expectErrno(t, "Ack", s.Ack(0, 0, 60), api.OK)
			if s.Limit() != max(60, c.limit) {
				t.Fatalf("credit %d, then 60: the limit is %d", c.credit, s.Limit())
			}
		}
	}
}

// P17.4: a sender without loads.
func TestResumeWithoutLoads(t *testing.T) {
	s := made(t, 2)
	expectErrno(t, "Resume", s.Resume(0, 0, 0), api.OK)
	expectState(t, s, 0, 1, 1, 0)
	expectErrno(t, "Resume", s.Resume(0, 7, mostTime), api.OK)
	expectState(t, s, 0, 1, 1, 7)
	expectErrno(t, "Resume", s.Resume(0, 1, 5), api.OK)
	expectState(t, s, 0, 1, 1, 1)
	expectDue(t, s, mostTime)
	expectPush(t, s, named(1), 3, 1, api.OK)
	expectPush(t, s, nil, 3, 0, api.ErrWait)
	expectDue(t, s, 3, 1)
}

// P17.4, R7: acks, credits and times that may not be turn nothing.
func TestResumeWrong(t *testing.T) {
	start := func() *send.Sender {
		s := pushedAt(t, 8, 6, 4, 0)
		expectErrno(t, "Ack", s.Ack(1, 1, 0), api.OK)
		expectDue(t, s, 0, 2, 4)
		expectDue(t, s, 1, 2, 4)
		return s
	}
	hold := func(s *send.Sender) {
		t.Helper()
		expectState(t, s, 3, 2, 5, 6)
		expectDue(t, s, 2)
		expectDue(t, s, 3, 2, 4)
		expectDue(t, s, 6)
		expectErrno(t, "2 came", s.Ack(2, 0, 0), api.OK)
		expectState(t, s, 1, 4, 5, 6)
	}
	for _, ack := range wrongAcks(4) {
		s := start()
		expectErrno(t, "a wrong ack", s.Resume(ack, 100, 2), api.ErrArg)
		hold(s)
	}
	for _, credit := range wrongCredits() {
		s := start()
		expectErrno(t, "a wrong credit", s.Resume(3, credit, 2), api.ErrArg)
		hold(s)
	}
	for _, now := range wrongTimes() {
		s := start()
		expectErrno(t, "a wrong time", s.Resume(3, 4, now), api.ErrArg)
		expectErrno(t, "all wrong", s.Resume(-1, -1, now), api.ErrArg)
		hold(s)
	}
}

// P17.5, R5: a nil sender and one that New did not give, at each method, in any order, at right and wrong arguments.
func TestNotMade(t *testing.T) {
	for _, s := range []*send.Sender{nil, {}, new(send.Sender)} {
		for range 3 {
			for _, now := range append(wrongTimes(), 0, 1, mostTime) {
				expectPush(t, s, named(1), now, 0, api.ErrNil)
				expectPush(t, s, make([]byte, mostLoad+1), now, 0, api.ErrNil)
				expectDue(t, s, now)
				expectErrno(t, "Resume", s.Resume(0, 0, now), api.ErrNil)
				expectErrno(t, "Resume", s.Resume(-1, 5, now), api.ErrNil)
			}
			for _, credit := range append(wrongCredits(), 0, 1, mostCredit) {
				expectErrno(t, "Ack", s.Ack(0, 0, credit), api.ErrNil)
				expectErrno(t, "Ack", s.Ack(1, math.MaxUint64, credit), api.ErrNil)
				expectErrno(t, "Resume", s.Resume(0, credit, 0), api.ErrNil)
			}
			expectState(t, s, 0, 0, 0, 0)
		}
	}
}

// overwrite writes over all bytes, and over the room behind them.
func overwrite(b []byte) {
	b = b[:cap(b)]
	for i := range b {
		b[i] = '#'
	}
}

// R4: loads that are handed in are not changed, and writing over them behind Push turns nothing.
func TestLoadsNotKept(t *testing.T) {
	s := made(t, mostWindow)
	expectErrno(t, "Ack", s.Ack(0, 0, mostWindow), api.OK)
	whole := make([]byte, 4*mostLoad)
	for i := range whole {
		whole[i] = byte(i % 251)
	}
	kept := slices.Clone(whole)
	var want []api.Msg
	for i, n := range []int{0, 1, 2, 5, 8, 16, 100, mostLoad - 1, mostLoad} {
		expectPush(t, s, whole[i:i+n], 0, i+1, api.OK)
		want = append(want, api.Msg{Kind: api.MsgData, Seq: i + 1, Load: kept[i : i+n]})
	}
	if !bytes.Equal(whole, kept) {
		t.Fatal("Push changed what was handed in")
	}
	overwrite(whole)
	for _, now := range []int{0, 1, 3} {
		if got := s.Due(now); !sameMsgs(got, want) {
			t.Fatalf("Due(%d) tells what was written over", now)
		}
	}
	if !bytes.Equal(whole, bytes.Repeat([]byte{'#'}, len(whole))) {
		t.Fatal("a call wrote into what was handed in")
	}
}

// R4, P17.7: writing over an answer of Due turns neither a later answer nor another load of the same one.
func TestAnswersApart(t *testing.T) {
	s := pushedAt(t, 4, 4, 4, 0)
	for _, now := range []int{0, 1, 3, 7, 15, 31} {
		told := s.Due(now)
		for i := range told {
			if rest := data(upTo(i+1, 4)...); !sameMsgs(told[i:], rest) {
				t.Fatalf("Due(%d) is %v: not %v", now, told[i:], rest)
			}
			overwrite(told[i].Load)
			told[i] = api.Msg{Kind: -1, Seq: 77, Ack: 5}
		}
	}
	expectErrno(t, "Ack", s.Ack(0, 1, 0), api.OK)
	for _, m := range s.Due(63) {
		overwrite(m.Load)
	}
	expectErrno(t, "Resume", s.Resume(0, 4, 64), api.OK)
	expectDue(t, s, 64, 1, 2, 3, 4)
}

// R4: an answer of Due does not turn by later calls.
func TestAnswersStay(t *testing.T) {
	s := pushedAt(t, 3, 9, 3, 0)
	first := s.Due(0)
	expectErrno(t, "Ack", s.Ack(2, 0, 0), api.OK)
	expectPush(t, s, named(4), 1, 4, api.OK)
	second := s.Due(1)
	expectErrno(t, "Resume", s.Resume(4, 9, 2), api.OK)
	expectPush(t, s, named(5), 2, 5, api.OK)
	s.Due(2)
	if !sameMsgs(first, data(1, 2, 3)) || !sameMsgs(second, data(3, 4)) {
		t.Fatalf("the answers have become %v, %v", first, second)
	}
}

// R3: two senders are apart.
func TestSendersApart(t *testing.T) {
	one, two := pushedAt(t, 2, 2, 2, 0), pushedAt(t, 3, 3, 1, 0)
	expectErrno(t, "Ack", one.Ack(2, 0, 9), api.OK)
	expectState(t, two, 1, 1, 2, 3)
	expectDue(t, two, 0, 1)
	expectPush(t, two, named(2), 0, 2, api.OK)
	expectErrno(t, "Resume", two.Resume(0, 50, 0), api.OK)
	expectState(t, one, 0, 3, 3, 9)
	expectDue(t, one, 1000)
}

// P17.1 to P17.4: all rows of five calls out of some at a small window, held against the model.
func TestAllShortRows(t *testing.T) {
	calls := []func(b *both){
		func(b *both) { b.push(named(b.m.last()+1), 1) },
		func(b *both) { b.push(named(b.m.last()+1), 3) },
		func(b *both) { b.due(1) },
		func(b *both) { b.due(3) },
		func(b *both) { b.ack(0, 1, 3) },
		func(b *both) { b.ack(1, 0, 2) },
		func(b *both) { b.ack(1, 3, 4) },
		func(b *both) { b.ack(2, 1, 0) },
		func(b *both) { b.resume(0, 2, 2) },
		func(b *both) { b.resume(1, 0, 3) },
		func(b *both) { b.resume(2, 9, 0) },
	}
	rows := 1
	for range 5 {
		rows *= len(calls)
	}
	for window := 1; window <= 3; window++ {
		for row := range rows {
			b := newBoth(t, window)
			b.ack(0, 0, 3)
			b.push(named(1), 2)
			b.push(named(2), 0)
			for rest := row; len(b.done) < 8; rest /= len(calls) {
				calls[rest%len(calls)](b)
			}
			b.due(3)
			b.due(6)
		}
	}
}

// P17.1 to P17.7, R1, R7: long rows of any calls, right and wrong ones, held against the model; of all loads that were pushed what is told is just the load.
func TestChanceAgainstModel(t *testing.T) {
	c := chance(1717)
	for row := range 1500 {
		b := newBoth(t, 1+row%mostWindow)
		now := c.of(0, 0, 5, 1000, mostTime-200)
		for range 200 {
			c.call(b, now)
			now = min(mostTime, now+c.of(0, 0, 1, 1, 2))
		}
		b.due(min(mostTime, now+mostBack))
		b.resume(0, 0, now)
		b.due(now)
	}
}

// R7: a call that is refused, at any place of a row of calls, turns no later answer.
func TestRefusedTurnsNothing(t *testing.T) {
	c := chance(71)
	for row := range 300 {
		b := newBoth(t, 1+row%mostWindow)
		for now := range 100 {
			c.call(b, now)
			// The model is not asked: it stays as it was.
			last := b.s.Next() - 1
			for _, wrong := range []api.Errno{
				b.s.Ack(c.of(wrongAcks(last)...), c.next(), b.s.Limit()+1),
				b.s.Ack(c.below(last+1), c.next(), c.of(wrongCredits()...)),
				b.s.Resume(c.of(wrongAcks(last)...), last, now),
				b.s.Resume(last, c.of(wrongCredits()...), now),
				b.s.Resume(last, last, c.of(wrongTimes()...)),
			} {
				expectErrno(t, "a wrong call", wrong, api.ErrArg)
			}
			expectPush(t, b.s, named(0), c.of(wrongTimes()...), 0, api.ErrArg)
			expectPush(t, b.s, make([]byte, mostLoad+1), now, 0, api.ErrMany)
			expectDue(t, b.s, c.of(wrongTimes()...))
			b.hold()
		}
		b.due(200)
	}
}

// R3: the same calls have the same answers.
func TestSameAnswers(t *testing.T) {
	for seed := range 50 {
		one, two := chance(seed+1), chance(seed+1)
		first, second := newBoth(t, 1+seed%mostWindow), newBoth(t, 1+seed%mostWindow)
		for now := range 300 {
			one.call(first, now)
			two.call(second, now)
			expectState(t, second.s, first.s.Out(), first.s.Base(), first.s.Next(), first.s.Limit())
		}
		if a, b := first.s.Due(1000), second.s.Due(1000); !sameMsgs(a, b) {
			t.Fatalf("%v and %v", a, b)
		}
	}
}

// P17.8: asked each tick, a load that is out is told again at the latest MaxBack ticks later, whatever is acked and pushed beside it.
func TestToldAgain(t *testing.T) {
	c := chance(88)
	for row := range 60 {
		s := made(t, 1+row%mostWindow)
		there := map[int]bool{}
		told := map[int]int{}
		for now := range 600 {
			base, last := s.Base(), s.Next()-1
			expectErrno(t, "Ack of nothing new", s.Ack(base-1, 0, last+c.below(3)), api.OK)
			switch n := base + 1 + c.below(mostWindow); {
			case c.below(8) == 0 && n <= last:
				expectErrno(t, "Ack beyond a gap", s.Ack(base-1, 1<<(n-base-1), 0), api.OK)
				there[n] = true
			case c.below(150) == 0 && base <= last:
				expectErrno(t, "Ack", s.Ack(base, 0, 0), api.OK)
			case c.below(300) == 0:
				expectErrno(t, "Resume", s.Resume(base-1, 0, now), api.OK)
				clear(there)
			}
			if n, why := s.Push(nil, now); why == api.OK {
				told[n] = now
			}
			for _, n := range numbers(s.Due(now)) {
				told[n] = now
				if there[n] || n < s.Base() {
					t.Fatalf("%d is told, which came", n)
				}
			}
			for n := s.Base(); n < s.Next(); n++ {
				if !there[n] && now-told[n] >= mostBack {
					t.Fatalf("%d was told at %d, and not until %d", n, told[n], now)
				}
			}
		}
	}
}

// P17.6, P17.7: a long way of many loads: never more than window from the base on, none above the limit, each told as it was pushed.
func TestLongWay(t *testing.T) {
	c := chance(99)
	for _, window := range []int{1, 2, 7, 31, mostWindow} {
		s := made(t, window)
		came := 0
		for now := range 4000 {
			for s.Next() <= s.Limit() && s.Out() < window {
				n := s.Next()
				expectPush(t, s, named(n), now, n, api.OK)
			}
			expectPush(t, s, nil, now, 0, api.ErrWait)
			if s.Out() > window || s.Next()-s.Base() > window || s.Next()-1 > s.Limit() {
				t.Fatalf("window %d: %d out, from %d to %d, limit %d", window, s.Out(), s.Base(), s.Next()-1, s.Limit())
			}
			told := s.Due(now)
			if !sameMsgs(told, data(numbers(told)...)) {
				t.Fatalf("Due(%d) is %v", now, told)
			}
			came = min(s.Next()-1, came+c.below(3))
			expectErrno(t, "Ack", s.Ack(came, c.next()&c.next(), came+c.below(2*window)), api.OK)
			came = max(came, s.Base()-1)
		}
		if came < 500 {
			t.Fatalf("window %d: no more than %d came", window, came)
		}
	}
}
