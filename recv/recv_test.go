package recv_test

import (
	"bytes"
	"math"
	"slices"
	"testing"

	"gantline/api"
	"gantline/recv"
)

// wrongSeqs are numbers that no load can have.
func wrongSeqs() []int {
	return []int{0, -1, -2, -31, -32, -33, -1 << 32, math.MinInt + 1, math.MinInt}
}

// farSeqs are numbers that may not come yet, behind so many taken ones, at a window.
func farSeqs(taken, window int) []int {
	last := taken + window
	return []int{last + 1, last + 2, last + 31, last + 32, last + 33, last + 64, 1<<32 + taken + 1, 1 << 62, math.MaxInt - 1, math.MaxInt}
}

// longLoads are loads of too many bytes.
func longLoads() [][]byte {
	var loads [][]byte
	for _, n := range []int{mostLoad + 1, mostLoad + 2, 1208, 4096, 1 << 16, 1<<16 + 1, 1 << 20} {
		loads = append(loads, make([]byte, n))
	}
	return loads
}

// The document's example.
func TestExample(t *testing.T) {
	r := made(t, 4)
	expectData(t, r, 2, []byte("b"), api.OK)
	expectData(t, r, 1, []byte("a"), api.OK)
	expectCounts(t, r, 0, 2, 2)
	expectAck(t, r, 2, 0, 4)
	for _, want := range []string{"a", "b"} {
		if load, ok := r.Take(); string(load) != want || !ok {
			t.Fatalf("Take is %q, %v", load, ok)
		}
	}
	expectAck(t, r, 2, 0, 6)
}

// P18.1, P18.3: each window that may be has a receiver without loads.
func TestNew(t *testing.T) {
	for window := 1; window <= mostWindow; window++ {
		r := made(t, window)
		expectCounts(t, r, 0, 0, 0)
		expectAck(t, r, 0, 0, window)
		expectNothing(t, r)
		expectAck(t, r, 0, 0, window)
	}
}

// P18.1: windows that may not be.
func TestNewWrong(t *testing.T) {
	for _, window := range []int{0, -1, -2, -32, 33, 34, 64, 256 + 1, 1<<32 + 1, math.MaxInt, math.MinInt, math.MinInt + 1} {
		if r, why := recv.New(window); r != nil || why != api.ErrArg {
			t.Errorf("New(%d) is %v, %v", window, r, why)
		}
	}
}

// P18.1, P18.2, P18.4: loads that come in order and are taken one by one; the ring is gone round several times.
func TestInOrderOneByOne(t *testing.T) {
	for window := 1; window <= mostWindow; window++ {
		r := made(t, window)
		for n := 1; n <= 4*mostWindow+5; n++ {
			expectNothing(t, r)
			expectAck(t, r, n-1, 0, n-1+window)
			comes(t, r, n)
			expectCounts(t, r, n-1, 1, 1)
			expectAck(t, r, n, 0, n-1+window)
			expectTake(t, r, n)
			expectCounts(t, r, n, 0, 0)
			expectAck(t, r, n, 0, n+window)
		}
	}
}

// P18.1, P18.2, P18.4: loads that come in order until the window is full, and are taken many in a row; the credit rises by one behind each Take.
func TestInOrderManyInARow(t *testing.T) {
	for window := 1; window <= mostWindow; window++ {
		r := made(t, window)
		for round := range 5 {
			first := round * window
			for i := 1; i <= window; i++ {
				comes(t, r, first+i)
				expectCounts(t, r, first, i, i)
				expectAck(t, r, first+i, 0, first+window)
			}
			expectData(t, r, first+window+1, nil, api.ErrWait)
			for i := 1; i <= window; i++ {
				expectTake(t, r, first+i)
				expectCounts(t, r, first+i, window-i, window-i)
				expectAck(t, r, first+window, 0, first+i+window)
			}
			expectNothing(t, r)
		}
	}
}

// P18.1, P18.4: behind each Take just one more number may come, with a full window all the time.
func TestFullWindowGoesOn(t *testing.T) {
	for window := 1; window <= mostWindow; window++ {
		r := made(t, window)
		comes(t, r, upTo(1, window)...)
		for n := 1; n <= 3*mostWindow; n++ {
			expectData(t, r, n+window, named(0), api.ErrWait)
			expectTake(t, r, n)
			expectData(t, r, n+window+1, named(0), api.ErrWait)
			comes(t, r, n+window)
			expectCounts(t, r, n, window, window)
			expectAck(t, r, n+window, 0, n+window)
		}
	}
}

// P18.1, P18.2: a full window that came from the last number to the first one, at each place of the ring.
func TestFromLastToFirst(t *testing.T) {
	for window := 1; window <= mostWindow; window++ {
		for taken := range mostWindow + 2 {
			r := takenTo(t, window, taken)
			var bits uint64
			for n := taken + window; n > taken+1; n-- {
				comes(t, r, n)
				bits |= 1 << (n - taken - 2)
				expectAck(t, r, taken, bits, taken+window)
				expectCounts(t, r, taken, 0, taken+window-n+1)
				expectNothing(t, r)
			}
			comes(t, r, taken+1)
			expectAck(t, r, taken+window, 0, taken+window)
			expectCounts(t, r, taken, window, window)
			expectTake(t, r, upTo(taken+1, taken+window)...)
			expectNothing(t, r)
		}
	}
}

// P18.1: the first number that may come, the last one, and the one behind it, wherever the ring stands.
func TestFirstAndLastNumber(t *testing.T) {
	for window := 1; window <= mostWindow; window++ {
		for taken := range 2*mostWindow + 3 {
			r := takenTo(t, window, taken)
			expectData(t, r, taken+window+1, named(0), api.ErrWait)
			comes(t, r, taken+window)
			expectData(t, r, taken+window+1, named(0), api.ErrWait)
			expectData(t, r, taken+window, named(0), api.ErrOld)
			comes(t, r, upTo(taken+1, taken+window-1)...)
			expectCounts(t, r, taken, window, window)
			expectTake(t, r, taken+1)
			comes(t, r, taken+window+1)
			expectData(t, r, taken+window+2, named(0), api.ErrWait)
		}
	}
}

// P18.1, R7: numbers that no load can have are refused, and turn nothing.
func TestDataWrongNumbers(t *testing.T) {
	for _, window := range []int{1, 2, 31, mostWindow} {
		for _, taken := range []int{0, 1, 31, 32, 33} {
			r := takenTo(t, window, taken)
			comes(t, r, taken+window)
			before := stateOf(r)
			for _, seq := range wrongSeqs() {
				expectData(t, r, seq, named(0), api.ErrArg)
				expectData(t, r, seq, nil, api.ErrArg)
				if after := stateOf(r); after != before {
					t.Fatalf("Data(%d): %v, behind %v", seq, after, before)
				}
			}
			comes(t, r, upTo(taken+1, taken+window-1)...)
			expectTake(t, r, upTo(taken+1, taken+window)...)
			expectNothing(t, r)
		}
	}
}

// P18.1, P18.5, R7: numbers above the taken ones and window are refused, and turn nothing; none shares a place with one that is held.
func TestDataTooFar(t *testing.T) {
	for window := 1; window <= mostWindow; window++ {
		for _, taken := range []int{0, 1, 31, 32, 33} {
			r := takenTo(t, window, taken)
			for held := range window + 1 {
				if held > 0 {
					comes(t, r, taken+held)
				}
				before := stateOf(r)
				for _, seq := range farSeqs(taken, window) {
					expectData(t, r, seq, named(0), api.ErrWait)
					if after := stateOf(r); after != before {
						t.Fatalf("Data(%d): %v, behind %v", seq, after, before)
					}
				}
			}
			expectTake(t, r, upTo(taken+1, taken+window)...)
			expectNothing(t, r)
		}
	}
}

// P18.1, P18.4, R7: a number that came is refused, in the row and beyond a gap; what came first is taken.
func TestDataTwice(t *testing.T) {
	for _, taken := range []int{0, 1, 30, 31, 32, 63, 64} {
		r := takenTo(t, 6, taken)
		for _, n := range []int{4, 1, 6, 2} {
			comes(t, r, taken+n)
			before := stateOf(r)
			for _, load := range [][]byte{named(0), named(taken + n), nil, make([]byte, mostLoad)} {
				expectData(t, r, taken+n, load, api.ErrOld)
				if after := stateOf(r); after != before {
					t.Fatalf("%d twice: %v, behind %v", taken+n, after, before)
				}
			}
		}
		comes(t, r, taken+3, taken+5)
		for n := 1; n <= 6; n++ {
			expectData(t, r, taken+n, named(0), api.ErrOld)
		}
		expectTake(t, r, upTo(taken+1, taken+6)...)
		expectNothing(t, r)
	}
}

// P18.1: a load of no bytes that came is refused the second time, too.
func TestDataTwiceOfNothing(t *testing.T) {
	r := made(t, 3)
	for _, seq := range []int{2, 1, 3} {
		expectData(t, r, seq, nil, api.OK)
		expectData(t, r, seq, named(0), api.ErrOld)
		expectData(t, r, seq, []byte{}, api.ErrOld)
	}
	expectCounts(t, r, 0, 3, 3)
	for range 3 {
		if load, ok := r.Take(); len(load) != 0 || !ok {
			t.Fatalf("Take is %q, %v", load, ok)
		}
	}
	expectNothing(t, r)
}

// P18.1, R7: a number that was taken is refused from then on, however long ago.
func TestDataTaken(t *testing.T) {
	for window := 1; window <= mostWindow; window++ {
		r := made(t, window)
		for n := 1; n <= 2*mostWindow+2; n++ {
			comes(t, r, n)
			expectTake(t, r, n)
			for old := 1; old <= n; old++ {
				expectData(t, r, old, named(0), api.ErrOld)
			}
			expectCounts(t, r, n, 0, 0)
			expectAck(t, r, n, 0, n+window)
			expectNothing(t, r)
		}
	}
}

// P18.1, P18.4: loads of each length that may be are taken as they came; longer ones are refused, and their number may still come.
func TestDataLengths(t *testing.T) {
	r := made(t, 1)
	for n := 0; n <= mostLoad; n++ {
		load := bytes.Repeat([]byte{byte(n), byte(n >> 8), 0, 255, 195}, n/5+1)[:n]
		expectData(t, r, n+1, load, api.OK)
		if got, ok := r.Take(); !ok || !bytes.Equal(got, load) {
			t.Fatalf("a load of %d bytes: %q, %v", n, got, ok)
		}
	}
	for _, long := range longLoads() {
		r := made(t, 2)
		expectData(t, r, 2, long, api.ErrMany)
		expectData(t, r, 1, long, api.ErrMany)
		expectCounts(t, r, 0, 0, 0)
		expectAck(t, r, 0, 0, 2)
		expectNothing(t, r)
		comes(t, r, 2, 1)
		expectTake(t, r, 1, 2)
	}
}

// P18.1, P18.2, R6: a load that is nil and one that is empty are both a load of no bytes, which is held and taken.
func TestDataNothing(t *testing.T) {
	for _, nothing := range [][]byte{nil, {}, make([]byte, 0, 5)} {
		r := made(t, 3)
		expectData(t, r, 3, nothing, api.OK)
		expectCounts(t, r, 0, 0, 1)
		expectAck(t, r, 0, 0b10, 3)
		expectData(t, r, 1, nothing, api.OK)
		expectCounts(t, r, 0, 1, 2)
		expectAck(t, r, 1, 0b1, 3)
		if load, ok := r.Take(); len(load) != 0 || !ok {
			t.Fatalf("Take is %q, %v", load, ok)
		}
		expectCounts(t, r, 1, 0, 1)
		expectNothing(t, r)
		comes(t, r, 2)
		expectTake(t, r, 2)
		if load, ok := r.Take(); len(load) != 0 || !ok {
			t.Fatalf("Take is %q, %v", load, ok)
		}
		expectCounts(t, r, 3, 0, 0)
	}
}

// P18.4: loads of all bytes, also ones that are no text, are taken as they came.
func TestDataAllBytes(t *testing.T) {
	all := make([]byte, 256)
	for i := range all {
		all[i] = byte(i)
	}
	r := made(t, 4)
	loads := [][]byte{all, {0xFF, 0xFE, 0xC0}, {0}, bytes.Repeat([]byte{0xED, 0xA0, 0x80}, mostLoad/3)}
	for i, load := range loads {
		expectData(t, r, i+1, load, api.OK)
	}
	for i, load := range loads {
		if got, ok := r.Take(); !ok || !bytes.Equal(got, load) {
			t.Fatalf("load %d: %q, %v", i+1, got, ok)
		}
	}
}

// R1, R7: where several errors apply, the one named first is answered: ErrArg, ErrMany, and ErrOld or ErrWait, which never apply both.
func TestDataErrorNamedFirst(t *testing.T) {
	r := takenTo(t, 4, 3)
	comes(t, r, 4, 6)
	for _, long := range longLoads() {
		for _, seq := range wrongSeqs() {
			expectData(t, r, seq, long, api.ErrArg)
		}
		for _, old := range []int{1, 2, 3, 4, 6} {
			expectData(t, r, old, long, api.ErrMany)
			expectData(t, r, old, nil, api.ErrOld)
		}
		for _, far := range farSeqs(3, 4) {
			expectData(t, r, far, long, api.ErrMany)
			expectData(t, r, far, nil, api.ErrWait)
		}
		expectData(t, r, 5, long, api.ErrMany)
		expectCounts(t, r, 3, 1, 2)
		expectAck(t, r, 4, 0b1, 7)
	}
	comes(t, r, 5, 7)
	expectTake(t, r, 4, 5, 6, 7)
}

// P18.2, R7: a Take of an empty row answers nothing, however often, also with loads beyond a gap; these stay.
func TestTakeOfEmptyRow(t *testing.T) {
	for window := 1; window <= mostWindow; window++ {
		for _, taken := range []int{0, 1, 31, 32, 33} {
			r := takenTo(t, window, taken)
			expectNothing(t, r)
			comes(t, r, upTo(taken+2, taken+window)...)
			before := stateOf(r)
			for range 3 {
				expectNothing(t, r)
				if after := stateOf(r); after != before {
					t.Fatalf("%v, behind %v", after, before)
				}
			}
			comes(t, r, taken+1)
			expectTake(t, r, upTo(taken+1, taken+window)...)
			for range 3 {
				expectNothing(t, r)
			}
			expectCounts(t, r, taken+window, 0, 0)
		}
	}
}

// P18.2: a gap that is filled later lets the row reach up to the next gap, and no further.
func TestGapsFilled(t *testing.T) {
	r := made(t, 10)
	comes(t, r, 2, 3, 5, 8)
	expectCounts(t, r, 0, 0, 4)
	expectAck(t, r, 0, 0b1001011, 10)
	comes(t, r, 1)
	expectCounts(t, r, 0, 3, 5)
	expectAck(t, r, 3, 0b1001, 10)
	expectTake(t, r, 1)
	expectCounts(t, r, 1, 2, 4)
	expectAck(t, r, 3, 0b1001, 11)
	comes(t, r, 11)
	expectAck(t, r, 3, 0b1001001, 11)
	expectTake(t, r, 2, 3)
	expectNothing(t, r)
	expectCounts(t, r, 3, 0, 3)
	expectAck(t, r, 3, 0b1001001, 13)
	comes(t, r, 4)
	expectCounts(t, r, 3, 2, 4)
	expectAck(t, r, 5, 0b10010, 13)
	comes(t, r, 7)
	expectAck(t, r, 5, 0b10011, 13)
	comes(t, r, 6)
	expectCounts(t, r, 3, 5, 6)
	expectAck(t, r, 8, 0b10, 13)
	expectTake(t, r, 4, 5, 6, 7, 8)
	expectNothing(t, r)
	comes(t, r, 10, 9)
	expectAck(t, r, 11, 0, 18)
	expectTake(t, r, 9, 10, 11)
	expectCounts(t, r, 11, 0, 0)
}

// P18.2: each bit that a window allows, the first and the last among them, behind a row of each length and at some places of the ring.
func TestAckEachBit(t *testing.T) {
	for window := 1; window <= mostWindow; window++ {
		for _, taken := range []int{0, 1, 5, 30, 31, 32, 33, 64} {
			for row := range window {
				for bit := 0; row+2+bit <= window; bit++ {
					r := takenTo(t, window, taken)
					comes(t, r, taken+row+2+bit)
					comes(t, r, upTo(taken+1, taken+row)...)
					expectAck(t, r, taken+row, 1<<bit, taken+window)
					expectCounts(t, r, taken, row, row+1)
				}
			}
		}
	}
}

// P18.2: all bits that a window allows at once; none beyond it, though 64 are told.
func TestAckAllBits(t *testing.T) {
	for window := 1; window <= mostWindow; window++ {
		for _, taken := range []int{0, 1, 31, 32, 33, 100} {
			r := takenTo(t, window, taken)
			comes(t, r, upTo(taken+2, taken+window)...)
			expectAck(t, r, taken, 1<<(window-1)-1, taken+window)
			expectCounts(t, r, taken, 0, window-1)
		}
	}
}

// P18.2, P18.3: each set of loads that can be held at a window of 8, at each place of the ring.
func TestAckEachSet(t *testing.T) {
	const window = 8
	for taken := range mostWindow {
		for set := range 1 << window {
			r := takenTo(t, window, taken)
			ready, held := 0, 0
			for i := range window {
				if set>>i&1 == 0 {
					continue
				}
				comes(t, r, taken+1+i)
				held++
				if ready == i {
					ready++
				}
			}
			expectAck(t, r, taken+ready, uint64(set)>>ready>>1, taken+window)
			expectCounts(t, r, taken, ready, held)
			expectTake(t, r, upTo(taken+1, taken+ready)...)
			expectNothing(t, r)
			expectAck(t, r, taken+ready, uint64(set)>>ready>>1, taken+ready+window)
			expectCounts(t, r, taken+ready, 0, held-ready)
		}
	}
}

// P18.2, P18.3, R3: asking turns nothing.
func TestAskingTurnsNothing(t *testing.T) {
	r := takenTo(t, 5, 31)
	comes(t, r, 32, 34, 36)
	for range 5 {
		expectAck(t, r, 32, 0b101, 36)
		expectCounts(t, r, 31, 1, 3)
	}
	comes(t, r, 33, 35)
	expectTake(t, r, 32, 33, 34, 35, 36)
}

// P18.3, R5: a nil receiver and one that New did not give, at each method, in any order, at right and wrong arguments.
func TestNotMade(t *testing.T) {
	for _, r := range []*recv.Receiver{nil, {}, new(recv.Receiver)} {
		for range 3 {
			for _, seq := range append(wrongSeqs(), append(farSeqs(0, 0), 1, 2, 32)...) {
				expectData(t, r, seq, named(1), api.ErrNil)
				expectData(t, r, seq, nil, api.ErrNil)
				expectData(t, r, seq, make([]byte, mostLoad+1), api.ErrNil)
				expectNothing(t, r)
			}
			expectAck(t, r, 0, 0, 0)
			expectCounts(t, r, 0, 0, 0)
		}
	}
}

// overwrite writes over all bytes, and over the room behind them.
func overwrite(b []byte) {
	b = b[:cap(b)]
	for i := range b {
		b[i] = '#'
	}
}

// R4, P18.4: loads that are handed in are not changed, and writing over them behind Data turns nothing.
func TestLoadsNotKept(t *testing.T) {
	lengths := []int{0, 1, 2, 5, 8, 16, 31, 32, 33, 100, mostLoad - 1, mostLoad}
	whole := make([]byte, 2*mostLoad)
	for i := range whole {
		whole[i] = byte(i % 251)
	}
	kept := slices.Clone(whole)
	r := made(t, mostWindow)
	for i := len(lengths) - 1; i >= 0; i-- {
		expectData(t, r, i+1, whole[i:i+lengths[i]], api.OK)
	}
	expectData(t, r, 1, whole[50:60], api.ErrOld)
	expectData(t, r, 99, whole[50:60], api.ErrWait)
	if !bytes.Equal(whole, kept) {
		t.Fatal("Data changed what was handed in")
	}
	overwrite(whole)
	for i, n := range lengths {
		if load, ok := r.Take(); !ok || !bytes.Equal(load, kept[i:i+n]) {
			t.Fatalf("load %d is one that was written over", i+1)
		}
	}
	if !bytes.Equal(whole, bytes.Repeat([]byte{'#'}, len(whole))) {
		t.Fatal("a call wrote into what was handed in")
	}
}

// R4: an answer of Take that is written over turns no load that is held, or comes later.
func TestAnswersApart(t *testing.T) {
	for _, window := range []int{1, 2, 5, mostWindow} {
		r := made(t, window)
		comes(t, r, upTo(1, window)...)
		for n := 1; n <= 4*mostWindow; n++ {
			load, ok := r.Take()
			if !ok || !bytes.Equal(load, named(n)) {
				t.Fatalf("window %d: Take is %q, %v: not %q", window, load, ok, named(n))
			}
			overwrite(load)
			comes(t, r, n+window)
		}
	}
	whole := bytes.Repeat([]byte("gantline"), 20)
	kept := slices.Clone(whole)
	r := made(t, 2)
	expectData(t, r, 1, whole[:80], api.OK)
	load, _ := r.Take()
	overwrite(load)
	if !bytes.Equal(whole, kept) {
		t.Fatal("an answer shares memory with what was handed in")
	}
}

// R4: an answer of Take does not turn by later calls.
func TestAnswersStay(t *testing.T) {
	r := made(t, 3)
	var answers [][]byte
	for n := 1; n <= 3*mostWindow; n++ {
		comes(t, r, n)
		load, _ := r.Take()
		answers = append(answers, load)
	}
	for i, load := range answers {
		if !bytes.Equal(load, named(i+1)) {
			t.Fatalf("the answer %d has become %q", i+1, load)
		}
	}
}

// R3, R4: two receivers are apart, also where the second began as a copy of the first: an answer of one that is written over turns nothing of the other.
func TestReceiversApart(t *testing.T) {
	one, two := made(t, 4), made(t, 2)
	comes(t, one, 1, 2, 4)
	expectCounts(t, two, 0, 0, 0)
	comes(t, two, 2)
	expectTake(t, one, 1)
	expectAck(t, one, 2, 0b1, 5)
	expectAck(t, two, 0, 0b1, 2)

	copied := *one
	load, _ := one.Take()
	overwrite(load)
	comes(t, one, 3)
	expectCounts(t, &copied, 1, 1, 2)
	expectTake(t, &copied, 2)
	expectNothing(t, &copied)
	expectTake(t, one, 3, 4)
}

// P18.4, P18.6: all orders of up to seven loads, taken at the end; of up to six, what is told meanwhile is held against the model.
func TestAllOrders(t *testing.T) {
	for _, taken := range []int{0, 29} {
		for n := 1; n <= 6; n++ {
			orders(n, func(order []int) {
				b := newBoth(t, n)
				for i := range taken {
					b.data(i+1, named(i+1))
					b.take()
				}
				for _, i := range order {
					b.data(taken+i, named(taken+i))
				}
				expectTake(t, b.r, upTo(taken+1, taken+n)...)
				expectNothing(t, b.r)
			})
		}
	}
	orders(7, func(order []int) {
		r := made(t, 7)
		comes(t, r, order...)
		expectTake(t, r, upTo(1, 7)...)
		expectNothing(t, r)
	})
}

// P18.6: each order of six loads at each window, where what may not come yet comes again later, and each is taken as soon as it can be: what is taken is the same.
func TestAllOrdersAtEachWindow(t *testing.T) {
	for window := 1; window <= 6; window++ {
		orders(6, func(order []int) {
			r := made(t, window)
			var taken []string
			for len(taken) < 6 {
				before := len(taken)
				for _, n := range order {
					r.Data(n, named(n))
					for load, ok := r.Take(); ok; load, ok = r.Take() {
						taken = append(taken, string(load))
					}
				}
				if len(taken) == before {
					t.Fatalf("window %d, %v: no more than %q is taken", window, order, taken)
				}
			}
			for i, load := range taken {
				if load != string(named(i+1)) {
					t.Fatalf("window %d, %v: %q is taken", window, order, taken)
				}
			}
		})
	}
}

// P18.1 to P18.7: all rows of seven calls out of some at small windows, held against the model.
func TestAllShortRows(t *testing.T) {
	calls := []func(b *both){
		func(b *both) { b.take() },
		func(b *both) { b.data(1, named(len(b.done))) },
		func(b *both) { b.data(2, named(len(b.done))) },
		func(b *both) { b.data(3, nil) },
		func(b *both) { b.data(4, named(len(b.done))) },
		func(b *both) { b.data(0, named(0)) },
	}
	rows := 1
	for range 7 {
		rows *= len(calls)
	}
	for window := 1; window <= 3; window++ {
		for row := range rows {
			b := newBoth(t, window)
			for rest := row; len(b.done) < 7; rest /= len(calls) {
				calls[rest%len(calls)](b)
			}
			for b.take() {
			}
		}
	}
}

// P18.1 to P18.7, R1, R7: long rows of any calls, right and wrong ones, held against the model.
func TestChanceAgainstModel(t *testing.T) {
	c := chance(1818)
	for row := range 600 {
		b := newBoth(t, 1+row%mostWindow)
		for range 250 {
			c.call(b)
		}
		for b.take() {
		}
	}
}

// R7: calls that are refused, at any place of a row of calls, turn no later answer.
func TestRefusedTurnsNothing(t *testing.T) {
	c := chance(81)
	long := make([]byte, mostLoad+1)
	for row := range 200 {
		b := newBoth(t, 1+row%mostWindow)
		for range 100 {
			c.call(b)
			// The model is not asked: it stays as it was.
			taken := b.m.taken
			expectData(t, b.r, c.of(wrongSeqs()...), c.load(), api.ErrArg)
			expectData(t, b.r, c.of(farSeqs(taken, b.m.window)...), named(0), api.ErrWait)
			expectData(t, b.r, taken+1+c.below(b.m.window), long, api.ErrMany)
			for seq := range b.m.came {
				expectData(t, b.r, seq, named(0), api.ErrOld)
			}
			if b.m.row() == taken {
				expectNothing(t, b.r)
			}
			b.hold()
		}
		for b.take() {
		}
	}
}

// P18.4 to P18.7: a long way at some windows: loads come in any order, many times, and are taken now and then.
func TestLongWay(t *testing.T) {
	c := chance(99)
	for _, window := range []int{1, 2, 7, 31, mostWindow} {
		r := made(t, window)
		lastAck, lastCredit := 0, window
		for r.Taken() < 3000 {
			n := r.Taken() - 2 + c.below(window+5)
			why := r.Data(n, named(n))
			if (n < 1) != (why == api.ErrArg) || (n > lastCredit) != (why == api.ErrWait) {
				t.Fatalf("window %d: Data(%d) is %v", window, n, why)
			}
			for c.below(3) == 0 && r.Ready() > 0 {
				expectTake(t, r, r.Taken()+1)
			}
			ack, _, credit := r.Ack()
			if r.Held() > window || ack < lastAck || credit < lastCredit || credit-ack > window || credit != r.Taken()+window {
				t.Fatalf("window %d: %v", window, stateOf(r))
			}
			lastAck, lastCredit = ack, credit
		}
	}
}

// R3: the same calls have the same answers.
func TestSameAnswers(t *testing.T) {
	for seed := range 50 {
		one, two := chance(seed+1), chance(seed+1)
		first, second := newBoth(t, 1+seed%mostWindow), newBoth(t, 1+seed%mostWindow)
		for range 200 {
			one.call(first)
			two.call(second)
			if a, b := stateOf(first.r), stateOf(second.r); a != b {
				t.Fatalf("%v and %v", a, b)
			}
		}
	}
}
