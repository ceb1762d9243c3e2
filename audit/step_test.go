package audit

import (
	"slices"
	"testing"

	"courier/api"
)

// P2104: Step. P2105: Judge.

// wrongLists are lists beside one that may be seen: with a thing less, a thing more, two turned round, and each field of each another.
func wrongLists(seen []api.Seen) [][]api.Seen {
	lists := [][]api.Seen{append(slices.Clip(seen), api.Seen{}), append(slices.Clip(seen), up(0)), append([]api.Seen{down(1)}, seen...)}
	for i := range seen {
		lists = append(lists, slices.Delete(slices.Clone(seen), i, i+1), append(slices.Clip(seen), seen[i]))
		if i > 0 {
			turned := slices.Clone(seen)
			turned[i], turned[i-1] = turned[i-1], turned[i]
			lists = append(lists, turned)
		}
		for _, change := range []func(s *api.Seen){
			func(s *api.Seen) { s.Kind++ },
			func(s *api.Seen) { s.Side = 1 - s.Side },
			func(s *api.Seen) { s.Text = append(slices.Clip(s.Text), 'x') },
			func(s *api.Seen) { s.Control += "x" },
			func(s *api.Seen) { s.Number++ },
			func(s *api.Seen) { s.Again = !s.Again },
			func(s *api.Seen) { s.State++ },
			func(s *api.Seen) { s.Code += "x" },
			func(s *api.Seen) { s.Errors = append(slices.Clip(s.Errors), api.Finding{}) },
			func(s *api.Seen) { s.Errno++ },
		} {
			other := slices.Clone(seen)
			change(&other[i])
			lists = append(lists, other)
		}
	}
	return lists
}

// Of each event: Step takes what May tells, and nothing beside it; where it refuses the Pair is as it was.
func TestStepTakesWhatMayTells(t *testing.T) {
	p := begun(t, roomy(numbers()))
	for _, e := range []api.Event{
		submitting(0, message("A1", "", "AL ER")), submitting(0, message("A2", "", "")), submitting(0, "nothing"), syncing(0), ticking(both, 5),
		carrying(0, 0, 0), carrying(0, 0, 0), syncing(1), judging(1, "A1", "AE", api.Finding{Code: 101}), syncing(1),
		carrying(1, 0, 0), carrying(1, 0, 0), carrying(1, 0, 0), crashing(0, 9, 9), fusing(0, 1), restarting(0), syncing(0), crashing(0, 9, 9), restarting(0), syncing(0),
		of(api.EvCompact, 0), crashing(1, 9, 9), restarting(1), ticking(1, 9), carrying(0, 7, 7), dropping(1, 9),
	} {
		lists, err := p.May(e)
		if err != nil {
			t.Fatal(err)
		}
		isOne := func(l []api.Seen) bool {
			return slices.ContainsFunc(lists, func(m []api.Seen) bool { return same(m, l) })
		}
		for _, l := range lists {
			for _, wrong := range wrongLists(l) {
				if !isOne(wrong) {
					isFault(t, "Step", p.Step(e, wrong), api.ErrTrace, 0)
				}
			}
			q := *p
			steps(t, &q, e, l...)
			may(t, p, e, lists...)
		}
		steps(t, p, e, lists[len(lists)-1]...)
	}
}

// nil and empty lists and texts are the same.
func TestStepOfNothing(t *testing.T) {
	p := begun(t, plainSetup())
	for _, seen := range [][]api.Seen{nil, {}, make([]api.Seen, 0, 5)} {
		if err := p.Step(syncing(0), seen); err != nil {
			t.Error(err)
		}
	}
	for _, s := range []api.Seen{{Kind: api.SeenDown}, {Kind: api.SeenDown, Text: []byte{}}, {Kind: api.SeenDown, Errors: []api.Finding{}}} {
		steps(t, p, crashing(0, 0, 0), s)
		steps(t, p, restarting(0), up(0))
	}
	isFault(t, "Step", p.Step(crashing(0, 0, 0), nil), api.ErrTrace, 0)
	isFault(t, "Step", p.Step(syncing(0), []api.Seen{{}}), api.ErrTrace, 0)
	one, empty := submitting(0, ""), submitting(0, "")
	one.Text, empty.Text = nil, []byte{}
	for _, e := range []api.Event{one, empty} {
		goes(t, p, e, isRefused(0, api.ErrNoMSH))
	}
	for _, found := range [][]api.Finding{nil, {}} {
		e := judging(0, "A1", "AA")
		e.Errors = found
		goes(t, p, e, isRefused(0, api.ErrSide))
	}
}

// What was seen leaves just the states that agree with it, also where it is told later.
func TestStepThinsOut(t *testing.T) {
	ids := []string{"A1", "A2"}
	for left := range 3 {
		p := begun(t, plainSetup())
		for _, id := range ids {
			goes(t, p, submitting(0, message(id, "", "")))
		}
		goes(t, p, crashing(0, 1, 1), down(0))
		goes(t, p, crashing(1, 1, 1), down(1))
		want := []api.Seen{up(0)}
		for _, id := range ids[:left] {
			want = append(want, out(0, message(id, "", "")))
		}
		steps(t, p, restarting(0), want...)
		if len(p.spots) != 1 {
			t.Errorf("%d states", len(p.spots))
		}
		goes(t, p, restarting(1), up(1))
		for _, id := range ids[:left] {
			goes(t, p, carrying(0, 0, 0))
			goes(t, p, syncing(1), delivered(1, id, 0, message(id, "", "")))
		}
		goes(t, p, carrying(0, 0, 0), isRefused(0, api.ErrRange))
	}
}

func TestJudge(t *testing.T) {
	one, s := message("A1", "", ""), plainSetup()
	events := []api.Event{submitting(0, one), syncing(0), ticking(0, 5), crashing(0, 0, 0)}
	seen := [][]api.Seen{bothUp(), nil, {out(0, one)}, {out(0, one)}, {down(0)}}
	with := func(at int, list ...api.Seen) [][]api.Seen {
		other := slices.Clone(seen)
		other[at] = list
		return other
	}
	for name, c := range map[string]struct {
		events []api.Event
		seen   [][]api.Seen
		at     int
		code   api.Errno
	}{
		"the run":                 {events, seen, 0, api.OK},
		"its beginning":           {events[:2], seen[:3], 0, api.OK},
		"no events":               {nil, seen[:1], 0, api.OK},
		"empty lists":             {events[:1], [][]api.Seen{bothUp(), {}}, 0, api.OK},
		"a list too few":          {events, seen[:4], 4, api.ErrTrace},
		"lists too few":           {events, seen[:1], 2, api.ErrTrace},
		"a list too few of none":  {events[:1], seen[:1], 0, api.OK},
		"lists too few of none":   {append(events[:2:2], syncing(1), syncing(0)), seen[:3], 0, api.OK},
		"a list too many":         {events[:3], seen, 0, api.ErrTrace},
		"an empty list too many":  {events[:1], append(seen[:2:2], nil), 0, api.ErrTrace},
		"a list too many of none": {nil, seen[:2], 0, api.ErrTrace},
		"a wrong list too many":   {events[:1], [][]api.Seen{bothUp(), {up(0)}, nil}, 0, api.ErrTrace},
		"no list":                 {events, nil, 0, api.ErrTrace},
		"no list of no events":    {nil, [][]api.Seen{}, 0, api.ErrTrace},
		"an empty first":          {events, with(0), 0, api.ErrTrace},
		"half a first":            {events, with(0, up(0)), 0, api.ErrTrace},
		"a first turned round":    {events, with(0, up(1), up(0)), 0, api.ErrTrace},
		"more than a first":       {events, with(0, up(0), up(1), up(1)), 0, api.ErrTrace},
		"another first":           {events, with(0, up(0), down(1)), 0, api.ErrTrace},
		"a first with a text":     {events, with(0, up(0), api.Seen{Kind: api.SeenUp, Side: 1, Text: []byte("x")}), 0, api.ErrTrace},
		"a first with no text":    {events, with(0, up(0), api.Seen{Kind: api.SeenUp, Side: 1, Text: []byte{}}), 0, api.OK},
		"a wrong first event":     {events, with(1, out(0, one)), 1, api.ErrTrace},
		"a wrong second":          {events, with(2), 2, api.ErrTrace},
		"a wrong third":           {events, with(3, failed(0, "A1")), 3, api.ErrTrace},
		"a wrong last":            {events, with(4, down(1)), 4, api.ErrTrace},
		"no event":                {append(events[:2:2], api.Event{}), seen[:4], 3, api.ErrEvKind},
		"no event, unseen":        {append(events[:2:2], api.Event{Kind: 17}), seen[:3], 3, api.ErrEvKind},
		"two reasons":             {append(events[:2:2], api.Event{}), with(1, out(0, one)), 0, api.ErrTrace},
	} {
		at, err := Judge(s, c.events, c.seen)
		if at != c.at || (err == nil) != (c.code == api.OK) {
			t.Errorf("%s: %d, %v", name, at, err)
			continue
		}
		if err != nil {
			isFault(t, name, err, c.code, c.at)
		}
	}
	for field, wrong := range wrongSetups() {
		for _, list := range [][][]api.Seen{nil, seen} {
			at, err := Judge(wrong, events, list)
			if at != 0 {
				t.Errorf("at %d", at)
			}
			isSetupsRefusal(t, err, field)
		}
	}
}

// P2106: a run whose beginning is not taken is not taken.
func TestBeginningsOfRuns(t *testing.T) {
	for seed := range 8 {
		s, events, seen := run(t, 7000+uint64(seed), 40)
		for n := range events {
			if at, err := Judge(s, events[:n], seen[:n+1]); at != 0 || err != nil {
				t.Fatalf("%d events: %d, %v", n, at, err)
			}
		}
		for n := range events {
			for _, wrong := range wrongLists(seen[n+1])[:1] {
				bad := slices.Clone(seen)
				bad[n+1] = wrong
				for _, k := range []int{n + 1, n + 2, len(events)} {
					if k > len(events) {
						continue
					}
					at, err := Judge(s, events[:k], bad[:k+1])
					if at != n+1 {
						t.Errorf("%d events, %d wrong: %d", k, n+1, at)
					}
					isFault(t, "Judge", err, api.ErrTrace, n+1)
				}
			}
		}
	}
}
