package audit

import "courier/api"

// round is an event, played from all states in which a Pair is.
type round struct {
	event   api.Event
	sides   shelf[*endpoint]
	flights shelf[*flight]
	lists   shelf[seenList]
	states  shelf[spot]    // behind the event
	behind  map[int][]spot // of these, those behind a list
	// What was worked out need not be worked out in every state that has the same parts.
	steps   map[doing][]step
	strokes map[int]stroke
	flown   map[outing]outing
}

// doing is what a side does: in this event, or with what arrives.
type doing struct {
	side    int
	arrives string
}

// step is what a side may come to by that, and what is seen of it.
type step struct {
	side int
	seen []api.Seen
}

// stroke is what becomes of what is under way: what is so then, what of it arrives, or why nothing is done.
type stroke struct {
	flight  int
	arrives []byte
	code    api.Errno
}

// outing is what is under way, and what was seen.
type outing struct{ flight, list int }

// gather is called for each choice: the state behind the event, and what the sides let out.
type gather func(to spot, seen []api.Seen)

func newRound(e api.Event, x states) *round {
	r := &round{
		event:   e,
		behind:  map[int][]spot{},
		steps:   map[doing][]step{},
		strokes: map[int]stroke{},
		flown:   map[outing]outing{},
	}
	// No two of them are the same, so that they keep their places.
	for _, s := range x.sides {
		r.sides.put(s)
	}
	for _, f := range x.flights {
		r.flights.put(f)
	}
	return r
}

// after plays an event from every state.
func (p *Pair) after(e api.Event) (*round, error) {
	if !p.made() {
		return nil, fault(0, api.ErrZero)
	}
	if !mayBe(e) {
		return nil, fault(0, api.ErrEvKind)
	}
	r := newRound(e, p.states)
	type end struct{ state, list int }
	known := map[end]struct{}{}
	take := func(to spot, seen []api.Seen) {
		o := r.letOut(to.flight, seen)
		to.flight = o.flight
		at := end{r.states.put(to), o.list}
		if _, is := known[at]; !is {
			known[at] = struct{}{}
			r.behind[o.list] = append(r.behind[o.list], to)
		}
	}
	play := r.deeds()[e.Kind]
	for _, from := range p.spots {
		play(from, take)
		if len(r.states.things) > api.MaxWays {
			return nil, fault(0, api.ErrWays)
		}
	}
	return r, nil
}

// told gives the lists that may be seen, in new memory.
func (r *round) told() [][]api.Seen {
	var told [][]api.Seen
	for n, l := range r.lists.things {
		if len(r.behind[n]) > 0 {
			told = append(told, copiedList(l))
		}
	}
	return told
}

// statesBehind gives the states behind a list; none: it may not be seen.
func (r *round) statesBehind(seen []api.Seen) states {
	all := states{sides: r.sides.things, flights: r.flights.things}
	for n, l := range r.lists.things {
		if compareLists(l, seen) == 0 {
			return all.only(r.behind[n])
		}
	}
	return states{}
}

// letOut puts what the sides let out under way.
func (r *round) letOut(at int, seen []api.Seen) outing {
	return once(r.flown, outing{at, r.lists.put(seen)}, func() outing {
		f, told := r.flights.things[at].with(seen)
		return outing{r.flights.put(f), r.lists.put(told)}
	})
}

// stepsOf are all that a side may come to by what it does.
func (r *round) stepsOf(d doing, do func(s *endpoint, choose chosen)) []step {
	return once(r.steps, d, func() []step {
		var steps []step
		do(r.sides.things[d.side].copied(), func(s *endpoint, seen []api.Seen) {
			steps = append(steps, step{r.sides.put(s), seen})
		})
		return steps
	})
}

// once gives what was worked out for a key, or works it out.
func once[K comparable, V any](known map[K]V, key K, work func() V) V {
	v, is := known[key]
	if !is {
		v = work()
		known[key] = v
	}
	return v
}
