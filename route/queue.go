package route

import (
	"gantline/api"
)

// queue has things that wait, in a ring. An array's length is a constant, so there are places for the longest queue that may be; whoever puts things in holds them to a bound of its own.
type queue[T any] struct {
	places [api.MaxQueue]T
	front  int
	count  int
}

// put puts a thing behind the others.
func (q *queue[T]) put(thing T) {
	q.places[(q.front+q.count)%api.MaxQueue] = thing
	q.count++
}

// first is the thing in front; false, if none waits.
func (q *queue[T]) first() (T, bool) {
	if q.count == 0 {
		var nothing T
		return nothing, false
	}
	return q.places[q.front], true
}

// drop lets the thing in front go. Its place is emptied, so that nothing is kept that no call asks for.
func (q *queue[T]) drop() {
	var nothing T
	q.places[q.front] = nothing
	q.front = (q.front + 1) % api.MaxQueue
	q.count--
}
