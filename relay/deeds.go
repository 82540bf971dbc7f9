package relay

import (
	"gantline/api"
	"gantline/link"
	"gantline/route"
)

// deed is what is done at an act.
type deed func(r *Relay, a Act) Answer

// lineDeed is what is done at an act of one route that has not ended.
type lineDeed func(l *line, a Act) Answer

// linkDeed is what is done at an act of one link.
type linkDeed func(l *link.Link, a Act) api.Errno

// deeds are those of all Kinds.
func deeds() map[int]deed {
	return map[int]deed{
		Send:    ofRoute(moving(send)),
		Poll:    ofRoute(moving(poll)),
		Tick:    tick,
		Deliver: ofLink(func(l *link.Link, a Act) api.Errno { return l.Deliver(a.Net, a.I) }),
		Drop:    ofLink(func(l *link.Link, a Act) api.Errno { return l.Drop(a.Net, a.I) }),
		Twice:   ofLink(func(l *link.Link, a Act) api.Errno { return l.Twice(a.Net, a.I) }),
		Turn:    ofLink(func(l *link.Link, a Act) api.Errno { return l.Turn(a.Net, a.I, a.At, a.By) }),
		Forge:   ofLink(func(l *link.Link, a Act) api.Errno { return l.Forge(a.Net, a.Load) }),
		Break:   ofLink(reconnect),
		Reset:   ofRoute(reset),
	}
}

// ofRoute is a deed of the route that an act names, if that may still do anything.
func ofRoute(do lineDeed) deed {
	return func(r *Relay, a Act) Answer {
		if !r.hasRoute(a.Route) {
			return Answer{Why: api.ErrNone}
		}
		l := r.lines[a.Route]
		if l.ended {
			return Answer{Why: api.ErrOver}
		}
		return do(l, a)
	}
}

// moving is a deed behind which the route moves on.
func moving(do lineDeed) lineDeed {
	return func(l *line, a Act) Answer {
		answer := do(l, a)
		l.moveOn()
		return answer
	}
}

// ofLink is a deed of the link at the side that an act names, behind which the route moves on.
func ofLink(do linkDeed) deed {
	return ofRoute(moving(func(l *line, a Act) Answer {
		if !isSide(a.Side) {
			return Answer{Why: api.ErrArg}
		}
		return Answer{Why: do(l.links[a.Side], a)}
	}))
}

// send lets the producer send a load.
func send(l *line, a Act) Answer {
	return Answer{Why: l.links[producer].Send(a.Load)}
}

// poll lets the consumer have the next message, if it came.
func poll(l *line, _ Act) Answer {
	item, ok := l.links[consumer].Poll()
	if !ok {
		return Answer{}
	}
	// No error comes: that link was sent nothing but items.
	load, trailer, _ := route.Open(item)
	return Answer{Has: true, Load: load, Trailer: trailer}
}

// tick lets the time of all routes that have not ended go on.
func tick(r *Relay, _ Act) Answer {
	for _, l := range r.lines {
		if !l.ended {
			l.tick()
		}
	}
	for _, l := range r.lines {
		if !l.ended {
			l.moveOn()
		}
	}
	return Answer{}
}

// reconnect begins a link anew.
func reconnect(l *link.Link, _ Act) api.Errno {
	l.Reconnect()
	return api.OK
}

// reset ends a route.
func reset(l *line, _ Act) Answer {
	l.end()
	return Answer{}
}
