package audit

import (
	"courier/api"
	"courier/link"
)

// deed plays a kind of event from a state.
type deed func(from spot, take gather)

// deeds stand by their kinds.
func (r *round) deeds() [api.EvRaw + 1]deed {
	return [...]deed{
		api.EvSubmit:  r.submit,
		api.EvVerdict: r.verdict,
		api.EvTick:    r.tick,
		api.EvSync:    r.sync,
		api.EvCompact: r.compact,
		api.EvFuse:    r.fuse,
		api.EvCrash:   r.crash,
		api.EvRestart: r.restart,
		api.EvProbe:   r.probe,
		api.EvResync:  r.resync,
		api.EvCarry:   r.carry,
		api.EvDrop:    r.drop,
		api.EvDouble:  r.double,
		api.EvClip:    r.clip,
		api.EvNoise:   r.noise,
		api.EvRaw:     r.raw,
	}
}

func (r *round) refused(code api.Errno) []api.Seen {
	return []api.Seen{{Kind: api.SeenRefused, Side: r.event.Side, Errno: code}}
}

// ofSide plays what the event's side does.
func (r *round) ofSide(from spot, take gather, do func(s *endpoint, choose chosen)) {
	for _, x := range r.stepsOf(doing{side: from.sides[r.event.Side]}, do) {
		to := from
		to.sides[r.event.Side] = x.side
		take(to, x.seen)
	}
}

// ofEngine plays a step of the side's engine, which may refuse it.
func (r *round) ofEngine(from spot, take gather, ask func(s *endpoint) ([]api.Seen, api.Errno)) {
	r.ofSide(from, take, func(s *endpoint, choose chosen) {
		var seen []api.Seen
		code := api.ErrDead
		if s.up {
			seen, code = ask(s)
		}
		if code != api.OK {
			seen = r.refused(code)
		}
		choose(s, seen)
	})
}

func (r *round) submit(from spot, take gather) {
	r.ofEngine(from, take, func(s *endpoint) ([]api.Seen, api.Errno) { return s.submit(r.event.Text) })
}

func (r *round) verdict(from spot, take gather) {
	e := r.event
	r.ofEngine(from, take, func(s *endpoint) ([]api.Seen, api.Errno) { return s.verdict(e.Control, e.Code, e.Errors) })
}

func (r *round) sync(from spot, take gather) { r.ofEngine(from, take, (*endpoint).sync) }

func (r *round) compact(from spot, take gather) { r.ofEngine(from, take, (*endpoint).compact) }

func (r *round) probe(from spot, take gather) {
	w := api.LinkWait{Control: r.event.Control}
	r.ofEngine(from, take, func(s *endpoint) ([]api.Seen, api.Errno) { return s.ask(w) })
}

func (r *round) resync(from spot, take gather) {
	w := api.LinkWait{Control: r.event.Control, Reset: true, Next: r.event.Count}
	r.ofEngine(from, take, func(s *endpoint) ([]api.Seen, api.Errno) { return s.ask(w) })
}

// tick leaves no choice.
func (r *round) tick(from spot, take gather) {
	var seen []api.Seen
	for side, at := range from.sides {
		if r.event.Side != both && r.event.Side != side {
			continue
		}
		for _, x := range r.stepsOf(doing{side: at}, func(s *endpoint, choose chosen) { choose(s, s.tick(r.event.Count)) }) {
			from.sides[side] = x.side
			seen = append(seen, x.seen...)
		}
	}
	take(from, seen)
}

func (r *round) fuse(from spot, take gather) {
	r.ofSide(from, take, func(s *endpoint, choose chosen) {
		if s.dead {
			choose(s, r.refused(api.ErrDead))
			return
		}
		s.fuse = r.event.Count
		choose(s, nil)
	})
}

func (r *round) crash(from spot, take gather) {
	r.ofSide(from, take, func(s *endpoint, choose chosen) { s.crash(r.event.Tears, choose) })
}

func (r *round) restart(from spot, take gather) {
	r.ofSide(from, take, func(s *endpoint, choose chosen) {
		switch {
		case s.up:
			choose(s, r.refused(api.ErrTwice))
		case s.dead:
			choose(s, r.refused(api.ErrDead))
		default:
			s.restart(choose)
		}
	})
}

// ofLink plays what becomes of what is under way, and what the other side does with what arrives.
func (r *round) ofLink(from spot, take gather, do func(l *link.Link, side int) ([]byte, error)) {
	x := once(r.strokes, from.flight, func() stroke {
		l := r.flights.things[from.flight].laid()
		arrives, err := do(l, r.event.Side)
		if err != nil {
			return stroke{flight: from.flight, code: codeOf(err)}
		}
		return stroke{flight: r.flights.put(flightOf(l)), arrives: arrives}
	})
	from.flight = x.flight
	other := 1 - r.event.Side
	at := from.sides[other]
	switch {
	case x.code != api.OK:
		take(from, r.refused(x.code))
	case len(x.arrives) == 0 || !r.sides.things[at].up:
		take(from, nil)
	default:
		for _, y := range r.stepsOf(doing{at, string(x.arrives)}, func(s *endpoint, choose chosen) { choose(s, s.arrive(x.arrives)) }) {
			from.sides[other] = y.side
			take(from, y.seen)
		}
	}
}

func (r *round) carry(from spot, take gather) {
	r.ofLink(from, take, func(l *link.Link, side int) ([]byte, error) {
		return l.Carry(side, r.event.Index, r.event.Count)
	})
}

func (r *round) drop(from spot, take gather) {
	r.ofLink(from, take, func(l *link.Link, side int) ([]byte, error) { return nil, l.Drop(side, r.event.Index) })
}

func (r *round) double(from spot, take gather) {
	r.ofLink(from, take, func(l *link.Link, side int) ([]byte, error) { return nil, l.Double(side, r.event.Index) })
}

func (r *round) clip(from spot, take gather) {
	r.ofLink(from, take, func(l *link.Link, side int) ([]byte, error) {
		return nil, l.Clip(side, r.event.Index, r.event.Count)
	})
}

func (r *round) noise(from spot, take gather) {
	r.ofLink(from, take, func(l *link.Link, side int) ([]byte, error) { return nil, l.Noise(side, r.event.Text) })
}

func (r *round) raw(from spot, take gather) {
	r.ofLink(from, take, func(l *link.Link, side int) ([]byte, error) { return nil, l.Raw(side, r.event.Text) })
}
