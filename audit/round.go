package audit

import (
	"courier/api"
	"courier/link"
)

// round is an event, played from all states in which a Pair is.
type round struct {
	event   api.Event
	sides   shelf[*endpoint]
	flights shelf[*flight]
	lists   shelf[list]
	states  shelf[spot]    // behind the event
	behind  map[int][]spot // of these, those behind a list
	// What was worked out need not be worked out in every state that has the same parts.
	steps   map[doing][]step
	strokes map[int]stroke
	flown   map[outing]outing
}

// doing is what a side does: in this event, or with what arrives.
type doing struct {
	side    int
	arrives string
}

// step is what a side may come to by that, and what is seen of it.
type step struct {
	side int
	seen []api.Seen
}

// stroke is what becomes of what is under way: what is so then, what of it arrives, or why nothing is done.
type stroke struct {
	flight  int
	arrives []byte
	code    api.Errno
}

// outing is what is under way, and what was seen.
type outing struct{ flight, list int }

// gather is called for each choice: the state behind the event, and what the sides let out.
type gather func(to spot, seen []api.Seen)

func newRound(e api.Event, x states) *round {
	r := &round{
		event:   e,
		behind:  map[int][]spot{},
		steps:   map[doing][]step{},
		strokes: map[int]stroke{},
		flown:   map[outing]outing{},
	}
	// No two of them are the same, so that they keep their places.
	for _, s := range x.sides {
		r.sides.put(s)
	}
	for _, f := range x.flights {
		r.flights.put(f)
	}
	return r
}

// after plays an event from every state.
func (p *Pair) after(e api.Event) (*round, error) {
	if !p.made() {
		return nil, fault(0, api.ErrZero)
	}
	if !mayBe(e) {
		return nil, fault(0, api.ErrEvKind)
	}
	r := newRound(e, p.states)
	type end struct{ state, list int }
	known := map[end]struct{}{}
	take := func(to spot, seen []api.Seen) {
		o := r.letOut(to.flight, seen)
		to.flight = o.flight
		at := end{r.states.put(to), o.list}
		if _, is := known[at]; !is {
			known[at] = struct{}{}
			r.behind[o.list] = append(r.behind[o.list], to)
		}
	}
	play := r.deeds()[e.Kind]
	for _, from := range p.spots {
		play(from, take)
		if len(r.states.things) > api.MaxWays {
			return nil, fault(0, api.ErrWays)
		}
	}
	return r, nil
}

// told gives the lists that may be seen, in new memory.
func (r *round) told() [][]api.Seen {
	var told [][]api.Seen
	for n, l := range r.lists.things {
		if len(r.behind[n]) > 0 {
			told = append(told, copiedList(l))
		}
	}
	return told
}

// statesBehind gives the states behind a list; none: it may not be seen.
func (r *round) statesBehind(seen []api.Seen) states {
	all := states{sides: r.sides.things, flights: r.flights.things}
	for n, l := range r.lists.things {
		if compareLists(l, seen) == 0 {
			return all.only(r.behind[n])
		}
	}
	return states{}
}

// deed plays a kind of event from a state.
type deed func(from spot, take gather)

// deeds stand by their kinds.
func (r *round) deeds() [api.EvRaw + 1]deed {
	return [...]deed{
		api.EvSubmit:  r.submit,
		api.EvVerdict: r.verdict,
		api.EvTick:    r.tick,
		api.EvSync:    r.sync,
		api.EvCompact: r.compact,
		api.EvFuse:    r.fuse,
		api.EvCrash:   r.crash,
		api.EvRestart: r.restart,
		api.EvProbe:   r.probe,
		api.EvResync:  r.resync,
		api.EvCarry:   r.carry,
		api.EvDrop:    r.drop,
		api.EvDouble:  r.double,
		api.EvClip:    r.clip,
		api.EvNoise:   r.noise,
		api.EvRaw:     r.raw,
	}
}

func (r *round) refused(code api.Errno) []api.Seen {
	return []api.Seen{{Kind: api.SeenRefused, Side: r.event.Side, Errno: code}}
}

// letOut puts what the sides let out under way.
func (r *round) letOut(at int, seen []api.Seen) outing {
	return once(r.flown, outing{at, r.lists.put(seen)}, func() outing {
		f, told := r.flights.things[at].with(seen)
		return outing{r.flights.put(f), r.lists.put(told)}
	})
}

// stepsOf are all that a side may come to by what it does.
func (r *round) stepsOf(d doing, do func(s *endpoint, choose chosen)) []step {
	return once(r.steps, d, func() []step {
		var steps []step
		do(r.sides.things[d.side].copied(), func(s *endpoint, seen []api.Seen) {
			steps = append(steps, step{r.sides.put(s), seen})
		})
		return steps
	})
}

// ofSide plays what the event's side does.
func (r *round) ofSide(from spot, take gather, do func(s *endpoint, choose chosen)) {
	for _, x := range r.stepsOf(doing{side: from.sides[r.event.Side]}, do) {
		to := from
		to.sides[r.event.Side] = x.side
		take(to, x.seen)
	}
}

// ofEngine plays a step of the side's engine, which may refuse it.
func (r *round) ofEngine(from spot, take gather, ask func(s *endpoint) ([]api.Seen, api.Errno)) {
	r.ofSide(from, take, func(s *endpoint, choose chosen) {
		var seen []api.Seen
		code := api.ErrDead
		if s.up {
			seen, code = ask(s)
		}
		if code != api.OK {
			seen = r.refused(code)
		}
		choose(s, seen)
	})
}

func (r *round) submit(from spot, take gather) {
	r.ofEngine(from, take, func(s *endpoint) ([]api.Seen, api.Errno) { return s.submit(r.event.Text) })
}

func (r *round) verdict(from spot, take gather) {
	e := r.event
	r.ofEngine(from, take, func(s *endpoint) ([]api.Seen, api.Errno) { return s.verdict(e.Control, e.Code, e.Errors) })
}

func (r *round) sync(from spot, take gather) { r.ofEngine(from, take, (*endpoint).sync) }

func (r *round) compact(from spot, take gather) { r.ofEngine(from, take, (*endpoint).compact) }

func (r *round) probe(from spot, take gather) {
	w := api.LinkWait{Control: r.event.Control}
	r.ofEngine(from, take, func(s *endpoint) ([]api.Seen, api.Errno) { return s.ask(w) })
}

func (r *round) resync(from spot, take gather) {
	w := api.LinkWait{Control: r.event.Control, Reset: true, Next: r.event.Count}
	r.ofEngine(from, take, func(s *endpoint) ([]api.Seen, api.Errno) { return s.ask(w) })
}

// tick leaves no choice.
func (r *round) tick(from spot, take gather) {
	var seen []api.Seen
	for side, at := range from.sides {
		if r.event.Side != both && r.event.Side != side {
			continue
		}
		for _, x := range r.stepsOf(doing{side: at}, func(s *endpoint, choose chosen) { choose(s, s.tick(r.event.Count)) }) {
			from.sides[side] = x.side
			seen = append(seen, x.seen...)
		}
	}
	take(from, seen)
}

func (r *round) fuse(from spot, take gather) {
	r.ofSide(from, take, func(s *endpoint, choose chosen) {
		if s.dead {
			choose(s, r.refused(api.ErrDead))
			return
		}
		s.fuse = r.event.Count
		choose(s, nil)
	})
}

func (r *round) crash(from spot, take gather) {
	r.ofSide(from, take, func(s *endpoint, choose chosen) { s.crash(r.event.Tears, choose) })
}

func (r *round) restart(from spot, take gather) {
	r.ofSide(from, take, func(s *endpoint, choose chosen) {
		switch {
		case s.up:
			choose(s, r.refused(api.ErrTwice))
		case s.dead:
			choose(s, r.refused(api.ErrDead))
		default:
			s.restart(choose)
		}
	})
}

// ofLink plays what becomes of what is under way, and what the other side does with what arrives.
func (r *round) ofLink(from spot, take gather, do func(l *link.Link, side int) ([]byte, error)) {
	x := once(r.strokes, from.flight, func() stroke {
		l := r.flights.things[from.flight].laid()
		arrives, err := do(l, r.event.Side)
		if err != nil {
			return stroke{flight: from.flight, code: codeOf(err)}
		}
		return stroke{flight: r.flights.put(flightOf(l)), arrives: arrives}
	})
	from.flight = x.flight
	other := 1 - r.event.Side
	at := from.sides[other]
	switch {
	case x.code != api.OK:
		take(from, r.refused(x.code))
	case len(x.arrives) == 0 || !r.sides.things[at].up:
		take(from, nil)
	default:
		for _, y := range r.stepsOf(doing{at, string(x.arrives)}, func(s *endpoint, choose chosen) { choose(s, s.arrive(x.arrives)) }) {
			from.sides[other] = y.side
			take(from, y.seen)
		}
	}
}

func (r *round) carry(from spot, take gather) {
	r.ofLink(from, take, func(l *link.Link, side int) ([]byte, error) {
		return l.Carry(side, r.event.Index, r.event.Count)
	})
}

func (r *round) drop(from spot, take gather) {
	r.ofLink(from, take, func(l *link.Link, side int) ([]byte, error) { return nil, l.Drop(side, r.event.Index) })
}

func (r *round) double(from spot, take gather) {
	r.ofLink(from, take, func(l *link.Link, side int) ([]byte, error) { return nil, l.Double(side, r.event.Index) })
}

func (r *round) clip(from spot, take gather) {
	r.ofLink(from, take, func(l *link.Link, side int) ([]byte, error) {
		return nil, l.Clip(side, r.event.Index, r.event.Count)
	})
}

func (r *round) noise(from spot, take gather) {
	r.ofLink(from, take, func(l *link.Link, side int) ([]byte, error) { return nil, l.Noise(side, r.event.Text) })
}

func (r *round) raw(from spot, take gather) {
	r.ofLink(from, take, func(l *link.Link, side int) ([]byte, error) { return nil, l.Raw(side, r.event.Text) })
}

// once gives what was worked out for a key, or works it out.
func once[K comparable, V any](known map[K]V, key K, work func() V) V {
	v, is := known[key]
	if !is {
		v = work()
		known[key] = v
	}
	return v
}
