package route

import (
	"strconv"
	"testing"

	"gantline/api"
)

// P21.2: a queue of any kind of thing tells what was put into it, in order, at each place of the ring and each count.
func TestQueueOfAnyKind(t *testing.T) {
	queueOf(t, func(n int) int { return n + 1 })
	queueOf(t, strconv.Itoa)
	queueOf(t, func(n int) [2]uint64 { return [2]uint64{uint64(n), 1} })
	queueOf(t, func(n int) *int { return &n })
}

// queueOf fills and empties a queue of things made of numbers.
func queueOf[T comparable](t *testing.T, thing func(n int) T) {
	t.Helper()
	things := make([]T, 3*api.MaxQueue)
	for n := range things {
		things[n] = thing(n)
	}
	for start := range api.MaxQueue + 1 {
		for count := range api.MaxQueue + 1 {
			var q queue[T]
			for range start {
				q.put(things[0])
				q.drop()
			}
			for _, one := range things[:count] {
				q.put(one)
			}
			for i, one := range things[:count] {
				if got, ok := q.first(); got != one || !ok || q.count != count-i {
					t.Fatalf("from %d on, %d of %d: %v, %v, %d wait", start, i, count, got, ok, q.count)
				}
				q.drop()
			}
			expectEmpty(t, q)
		}
	}
}

// expectEmpty wants that nothing waits in a queue, and that nothing is kept in its places.
func expectEmpty[T comparable](t *testing.T, q queue[T]) {
	t.Helper()
	var nothing T
	if got, ok := q.first(); got != nothing || ok || q.count != 0 {
		t.Fatalf("%v, %v, %d wait", got, ok, q.count)
	}
	for i, one := range q.places {
		if one != nothing {
			t.Fatalf("place %d keeps %v", i, one)
		}
	}
}

// R4: of what went, nothing is kept.
func TestTakenIsNotKept(t *testing.T) {
	r, _ := New(api.MaxQueue, api.Json, api.Cbor)
	for range 5 {
		for range api.MaxQueue {
			r.Offer([]byte(`[1]`))
		}
		for range api.MaxQueue {
			r.Take()
		}
		for i, one := range r.items.places {
			if one != nil {
				t.Fatalf("place %d keeps % X", i, one)
			}
		}
	}
}
