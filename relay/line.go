package relay

import (
	"slices"

	"gantline/api"
	"gantline/link"
	"gantline/route"
)

// The sides of a route.
const (
	producer = iota
	consumer
	sideCount
)

// netCount is how many nets a link has.
const netCount = 2

// line is a route of a relay, from a producer to a consumer.
type line struct {
	tokens [sideCount]uint64
	links  [sideCount]*link.Link
	items  *route.Route
	ended  bool
	last   counts // as when the route ended, since its links went then
}

// counts are what a route tells of itself.
type counts struct {
	accepted  int
	delivered int
	waits     int
	held      [sideCount]int
	way       [sideCount][netCount]int
}

// newLine is a route whose two links have these tokens.
func newLine(window int, items *route.Route, up, down uint64) *line {
	l := &line{tokens: [sideCount]uint64{up, down}, items: items}
	for side, token := range l.tokens {
		// No error comes: a relay's window is one that a link may have.
		l.links[side], _ = link.New(window, token)
	}
	return l
}

// hasToken says whether a token is one of the route's links'.
func (l *line) hasToken(token uint64) bool { return slices.Contains(l.tokens[:], token) }

// tick lets the time of both links go on.
func (l *line) tick() {
	for _, one := range l.links {
		one.Tick()
	}
}

// moveOn brings messages as far as there is room for them.
func (l *line) moveOn() {
	for l.sendOn() || l.takeIn() {
	}
}

// sendOn brings the first item that waits to the consumer's link, and says whether that took it.
func (l *line) sendOn() bool {
	item, ok := l.items.Peek()
	if !ok || l.links[consumer].Send(item) != api.OK {
		return false
	}
	l.items.Take()
	return true
}

// takeIn brings a load of the producer's link to the items, and says whether there was one, and room.
func (l *line) takeIn() bool {
	// The room is asked for first, since a load that was polled can't go back.
	if l.items.Room() == 0 {
		return false
	}
	load, ok := l.links[producer].Poll()
	if ok {
		// No error comes: there is room, and no load of a link is too long for a message.
		l.items.Offer(load)
	}
	return ok
}

// end ends the route: no more of it is kept than what it still tells.
func (l *line) end() {
	last := l.counts()
	*l = line{tokens: l.tokens, ended: true, last: last}
}

// counts are as when the route ended, if it has.
func (l *line) counts() counts {
	if l.ended {
		return l.last
	}
	c := counts{
		accepted:  l.links[producer].Sent(),
		delivered: l.links[consumer].Got(),
		waits:     l.items.Len(),
	}
	for side, one := range l.links {
		c.held[side] = one.Held()
		for net := range netCount {
			c.way[side][net] = one.Way(net)
		}
	}
	return c
}

// isSide says whether a route has such a side.
func isSide(side int) bool { return side == producer || side == consumer }

// isNet says whether a link has such a net.
func isNet(net int) bool { return net >= 0 && net < netCount }
