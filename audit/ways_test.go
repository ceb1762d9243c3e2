package audit

import (
	"strconv"
	"testing"

	"courier/api"
)

// P2102: MaxWays, and that the same states are one.

// waiting lets a side write so many records that wait: two by each message of which nothing comes back, one by another.
func waiting(t *testing.T, p *Pair, side, records int) {
	t.Helper()
	for i := range records / 2 {
		steps(t, p, submitting(side, message("N"+strconv.Itoa(i), "", "NE NE")))
	}
	if records%2 == 1 {
		steps(t, p, submitting(side, message("Z", "", "AL AL")))
	}
}

// manyStates gives a Pair whose sides are down, each in so many states.
func manyStates(t *testing.T, first, second int) *Pair {
	t.Helper()
	p := begun(t, roomy(plainSetup()))
	for side, n := range []int{first, second} {
		waiting(t, p, side, n-1)
		steps(t, p, crashing(side, 5, 5), down(side))
	}
	if len(p.spots) != first*second {
		t.Fatalf("%d states", len(p.spots))
	}
	return p
}

func TestAsManyStatesAsMayBe(t *testing.T) {
	for _, n := range [][2]int{{64, 64}, {32, 128}, {128, 32}, {16, 256}, {1, 200}} {
		p := manyStates(t, n[0], n[1])
		// They go on, as many as they are.
		for range 3 {
			goes(t, p, ticking(both, 7))
			goes(t, p, crashing(0, 5, 5))
			goes(t, p, putting(0, []byte("x")))
			goes(t, p, carrying(0, 0, 0))
			goes(t, p, fusing(1, -1))
			goes(t, p, of(api.EvSync, 0), isRefused(0, api.ErrDead))
		}
		if len(p.spots) != n[0]*n[1] {
			t.Errorf("%d states", len(p.spots))
		}
	}
}

func TestMoreStatesThanMayBe(t *testing.T) {
	for _, n := range [][2]int{{64, 65}, {65, 64}, {17, 241}, {241, 17}, {100, 100}, {250, 250}} {
		p := begun(t, roomy(plainSetup()))
		waiting(t, p, 0, n[0]-1)
		waiting(t, p, 1, n[1]-1)
		steps(t, p, crashing(0, 5, 5), down(0))
		for _, e := range []api.Event{crashing(1, 5, 5), crashing(1, 0, 1), crashing(1, area-1, area)} {
			list, err := p.May(e)
			if list != nil {
				t.Errorf("%d lists", len(list))
			}
			isFault(t, "May", err, api.ErrWays, 0)
			// Whatever is seen: a list that may be, and one that may not.
			isFault(t, "Step", p.Step(e, []api.Seen{down(1)}), api.ErrWays, 0)
			isFault(t, "Step", p.Step(e, nil), api.ErrWays, 0)
		}
		// It is as it was.
		if len(p.spots) != n[0] {
			t.Errorf("%d states", len(p.spots))
		}
		may(t, p, crashing(1, 0, 0), []api.Seen{down(1)})
		goes(t, p, crashing(1, area, area), down(1))
	}
}

// The limit is that of all states behind the event, also where what is seen would leave few of them.
func TestStatesInAll(t *testing.T) {
	restart := func(fuse int) (*Pair, api.Event) {
		p := manyStates(t, 64, 64)
		steps(t, p, fusing(0, fuse))
		return p, restarting(0)
	}
	p, e := restart(-1)
	if list, err := p.May(e); err != nil || len(list) != 33 {
		t.Errorf("without a fuse: %d lists, %v", len(list), err)
	}
	// Alive with a fuse of 0 or dead: two states for each; where it must write a record, dead alone.
	p, e = restart(0)
	_, err := p.May(e)
	isFault(t, "May", err, api.ErrWays, 0)
	isFault(t, "Step", p.Step(e, []api.Seen{down(0)}), api.ErrWays, 0)
	isFault(t, "Step", p.Step(e, nil), api.ErrWays, 0)
	steps(t, p, crashing(0, 0, 0))
}

// Judge tells the event with which there are too many.
func TestJudgeTellsWays(t *testing.T) {
	var events []api.Event
	seen := [][]api.Seen{bothUp()}
	for side := range 2 {
		for i := range 32 {
			events = append(events, submitting(side, message("N"+strconv.Itoa(i), "", "NE NE")))
			seen = append(seen, nil)
		}
	}
	events = append(events, crashing(0, 5, 5), crashing(1, 5, 5), syncing(0))
	seen = append(seen, []api.Seen{down(0)}, []api.Seen{down(1)}, []api.Seen{isRefused(0, api.ErrDead)})
	for _, last := range [][][]api.Seen{seen, seen[:len(seen)-2]} {
		at, err := Judge(roomy(plainSetup()), events, last)
		if at != 66 {
			t.Errorf("at %d", at)
		}
		isFault(t, "Judge", err, api.ErrWays, 66)
	}
	// With one record less there are not.
	events[0], seen[1] = judging(0, "x", "AA"), []api.Seen{isRefused(0, api.ErrSide)}
	events[32], seen[33] = events[0], seen[1]
	events[32].Side, seen[33] = 1, []api.Seen{isRefused(1, api.ErrSide)}
	if at, err := Judge(roomy(plainSetup()), events, seen); at != 0 || err != nil {
		t.Errorf("%d, %v", at, err)
	}
}

// States that are the same are one: what told them apart is gone.
func TestTheSameIsOne(t *testing.T) {
	p := begun(t, roomy(plainSetup()))
	waiting(t, p, 0, 40)
	steps(t, p, crashing(0, 5, 5), down(0))
	if len(p.spots) != 41 {
		t.Fatalf("%d states", len(p.spots))
	}
	// Those with an even number of records have no message outstanding, and are unlike by what stands behind the snapshot.
	steps(t, p, restarting(0), up(0))
	if len(p.spots) != 21 {
		t.Fatalf("%d states", len(p.spots))
	}
	goes(t, p, of(api.EvCompact, 0))
	if len(p.spots) != 1 {
		t.Fatalf("%d states", len(p.spots))
	}
	// A restart without a write that died, and one that died in a write, are the same.
	goes(t, p, crashing(0, 0, 0), down(0))
	steps(t, p, fusing(0, 0))
	steps(t, p, restarting(0), down(0))
	if len(p.spots) != 1 {
		t.Fatalf("%d states", len(p.spots))
	}
	// Of a restart the writes that are left tell states apart, until the fuse is another one.
	goes(t, p, crashing(0, 0, 0))
	goes(t, p, fusing(0, 2))
	goes(t, p, restarting(0), up(0))
	if len(p.spots) != 3 {
		t.Fatalf("%d states", len(p.spots))
	}
	goes(t, p, fusing(0, 5))
	if len(p.spots) != 1 {
		t.Fatalf("%d states", len(p.spots))
	}
}

// Where no record waits a crash leaves no choice, whatever the tears are.
func TestNothingToTear(t *testing.T) {
	for _, e := range []api.Event{crashing(0, 0, 0), crashing(0, 5, 5), crashing(0, area, area), crashing(0, 0, area)} {
		p := begun(t, plainSetup())
		goes(t, p, submitting(0, message("A1", "", "")))
		goes(t, p, syncing(0), out(0, message("A1", "", "")))
		goes(t, p, e, down(0))
		if len(p.spots) != 1 {
			t.Errorf("%d states", len(p.spots))
		}
		goes(t, p, restarting(0), up(0), out(0, message("A1", "", "")))
	}
}
