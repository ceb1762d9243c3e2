package audit

import (
	"fmt"
	"slices"
	"testing"

	"courier/api"
)

// A fuse at each number of writes, in each kind of step, and what is left behind the crash.

// ends are what may follow a step in which the disk may have died: a crash with these tears, a restart, and what tells the states apart.
func ends(side int, tears [2]int) []api.Event {
	return []api.Event{
		crashing(side, tears[0], tears[1]), restarting(side), of(api.EvSync, side),
		// Whether the log is compacted ahead of this step is told by a fuse that has room for its records alone.
		fusing(side, 2), submitting(side, message("Z9", "", "AL AL")), crashing(side, area, area), restarting(side),
	}
}

func TestFuses(t *testing.T) {
	a1, a2 := submitting(0, message("A1", "", "AL ER")), submitting(0, message("A2", "", "NE NE"))
	in1 := []api.Event{putting(1, framed(message("B1", "", "AL AL"))), carrying(1, 0, 0)}
	in2 := []api.Event{putting(1, framed(message("B2", "", ""))), carrying(1, 0, 0)}
	commit := []api.Event{putting(1, heard("CA", "A1", "")), carrying(1, 0, 0)}
	for name, c := range map[string]struct {
		setup  func(s *api.Setup)
		ahead  []api.Event
		step   []api.Event
		writes int
	}{
		"submit":          {nil, nil, []api.Event{a1}, 1},
		"submit, closed":  {nil, nil, []api.Event{a2}, 2},
		"sync":            {nil, []api.Event{a1}, []api.Event{syncing(0)}, 1},
		"sync of nothing": {nil, nil, []api.Event{syncing(0)}, 1},
		"compact of 4":    {nil, []api.Event{a1, syncing(0)}, []api.Event{of(api.EvCompact, 0)}, 4},
		"compact of 5":    {nil, []api.Event{a1, syncing(0), a2}, []api.Event{of(api.EvCompact, 0)}, 5},
		"accept":          {nil, nil, in1, 1},
		"verdict":         {nil, append(slices.Clip(in1), syncing(0)), []api.Event{judging(0, "B1", "AA")}, 1},
		"settled":         {nil, []api.Event{a1, syncing(0)}, commit, 1},
		"failed":          {nil, []api.Event{a1, syncing(0), ticking(0, 5)}, []api.Event{ticking(0, 5)}, 1},
		"both failed":     {nil, []api.Event{a1, submitting(0, message("A3", "", "")), ticking(0, 5)}, []api.Event{ticking(both, 5)}, 2},
		"compact ahead of a submit": {
			func(s *api.Setup) { s.Sides[0].Compact = 1 }, []api.Event{a1, syncing(0)}, []api.Event{a2}, 6,
		},
		"compact ahead of an arrival, with a record": {
			func(s *api.Setup) { s.Sides[0].Compact = 2 }, append(slices.Clip(in1), a1), in2, 6,
		},
		"compact ahead of a tick": {
			func(s *api.Setup) { s.Sides[0].Compact = 1 }, []api.Event{a1}, []api.Event{ticking(0, 3)}, 5,
		},
		"turn": {
			func(s *api.Setup) { s.Sides[0].Sequence = true }, nil, []api.Event{a1}, 2,
		},
		"next turn": {
			func(s *api.Setup) { s.Sides[0].Sequence = true },
			[]api.Event{submitting(0, message("A1", "", "AL NE")), submitting(0, message("A2", "", "")), syncing(0)}, commit, 2,
		},
		"another number": {
			func(s *api.Setup) { s.Sides[0].Sequence = true }, []api.Event{a1},
			[]api.Event{putting(1, heard("CE", "A1", "||7", "ERR||"+report(207, 13))), carrying(1, 0, 0)}, 1,
		},
		"resync": {
			func(s *api.Setup) { s.Sides[0].Sequence = true }, []api.Event{resyncing(0, "R1", 7)},
			[]api.Event{putting(1, heard("AA", "R1", "||0")), carrying(1, 0, 0)}, 1,
		},
		"resync at the other side": {
			func(s *api.Setup) { s.Sides[1].Sequence = true }, nil,
			[]api.Event{putting(1, framed("MSH|^~\\&|HIS||LAB||2026||QRY^Q01|R1|P|2.5.1|-1\r")), carrying(1, 0, 0)}, 1,
		},
		"restart": {nil, []api.Event{a1, syncing(0), crashing(0, 0, 0)}, []api.Event{restarting(0)}, 2},
		"restart with a turn": {
			nil, []api.Event{a2, submitting(0, message("A3", "", "NE NE")), crashing(0, 9, 9)}, []api.Event{restarting(0)}, 3,
		},
	} {
		for fuse := range c.writes + 2 {
			for _, tears := range [][2]int{{0, 0}, {9, 9}, {area, area}, {area, 0}} {
				t.Run(fmt.Sprint(name, fuse, tears), func(t *testing.T) {
					t.Parallel()
					s := roomy(plainSetup())
					for i := range s.Sides {
						s.Sides[i].Compact = 3
					}
					if c.setup != nil {
						c.setup(&s)
					}
					list := slices.Concat(c.ahead, c.step[:len(c.step)-1], []api.Event{fusing(0, fuse)}, c.step[len(c.step)-1:], ends(0, tears))
					explored(t, s, list...)
				})
			}
		}
	}
}

// How many writes a step has: with a fuse of one less the side goes down, with as many it does not.
func TestFuseBurnsByWrites(t *testing.T) {
	for name, c := range map[string]struct {
		ahead  []api.Event
		step   api.Event
		writes int
	}{
		"submit":          {nil, submitting(0, message("A1", "", "")), 1},
		"submit, closed":  {nil, submitting(0, message("A1", "", "NE NE")), 2},
		"sync":            {nil, syncing(0), 1},
		"compact":         {nil, of(api.EvCompact, 0), 4},
		"compact of more": {[]api.Event{submitting(0, message("A1", "", ""))}, of(api.EvCompact, 0), 5},
		"tick":            {nil, ticking(0, 100000), 0},
		"refused":         {nil, submitting(0, "nothing"), 0},
		"arrival":         {[]api.Event{putting(1, []byte("x"))}, carrying(1, 0, 0), 0},
		"message":         {[]api.Event{putting(1, framed(message("B1", "", "")))}, carrying(1, 0, 0), 1},
	} {
		for fuse := range c.writes + 1 {
			d := newDuo(t, roomy(plainSetup()))
			for _, e := range c.ahead {
				d.does(e)
			}
			d.sees(fusing(0, fuse))
			seen := d.does(c.step)
			isDown := slices.ContainsFunc(seen, func(s api.Seen) bool { return s.Kind == api.SeenDown })
			if isDown != (fuse < c.writes) {
				t.Errorf("%s with a fuse of %d: %s", name, fuse, shown(seen))
			}
		}
	}
}

// compacted gives a Pair whose side 0 died in a Compact, behind so many writes, and came up again behind these tears; then a fuse lets one write be done.
func compacted(t *testing.T, isWaiting bool, done, keep int) *Pair {
	t.Helper()
	s := plainSetup()
	s.Sides[0].Compact = 1
	p := begun(t, s)
	goes(t, p, submitting(0, message("A1", "", "")))
	if !isWaiting {
		goes(t, p, syncing(0), out(0, message("A1", "", "")))
	}
	goes(t, p, fusing(0, done))
	goes(t, p, of(api.EvCompact, 0), down(0))
	goes(t, p, crashing(0, keep, keep))
	list, err := p.May(restarting(0))
	if err != nil {
		t.Fatal(err)
	}
	steps(t, p, restarting(0), list[len(list)-1]...)
	goes(t, p, fusing(0, 1))
	return p
}

// Whether a record stands behind the snapshot is seen by the Compact ahead of a step, which a fuse of 1 does not let through.
func TestCompactHalfWay(t *testing.T) {
	stands, none := []api.Seen{down(0)}, []api.Seen(nil)
	for _, c := range []struct {
		isWaiting bool
		done      int
		keep      int
		want      [][]api.Seen
	}{
		{false, 0, 0, [][]api.Seen{stands}}, {false, 0, 5, [][]api.Seen{stands}}, {false, 0, area, [][]api.Seen{stands}},
		{false, 1, 0, [][]api.Seen{stands}}, {false, 1, 5, [][]api.Seen{stands}}, {false, 1, area, [][]api.Seen{stands}},
		{false, 2, 0, [][]api.Seen{stands}}, {false, 2, 5, [][]api.Seen{none, stands}}, {false, 2, area, [][]api.Seen{none}},
		{false, 3, 0, [][]api.Seen{none}}, {false, 3, 5, [][]api.Seen{none}}, {false, 3, area, [][]api.Seen{none}},
		// The first write makes the record durable; without it the record may be torn.
		{true, 0, 0, [][]api.Seen{none}}, {true, 0, 5, [][]api.Seen{stands}}, {true, 0, area, [][]api.Seen{stands}},
		{true, 1, 0, [][]api.Seen{stands}}, {true, 1, 5, [][]api.Seen{stands}}, {true, 1, area, [][]api.Seen{stands}},
		{true, 2, 0, [][]api.Seen{stands}}, {true, 2, 5, [][]api.Seen{stands}}, {true, 2, area, [][]api.Seen{stands}},
		{true, 3, 0, [][]api.Seen{stands}}, {true, 3, 5, [][]api.Seen{none, stands}}, {true, 3, area, [][]api.Seen{none}},
		{true, 4, 0, [][]api.Seen{none}}, {true, 4, 5, [][]api.Seen{none}}, {true, 4, area, [][]api.Seen{none}},
	} {
		p := compacted(t, c.isWaiting, c.done, c.keep)
		may(t, p, submitting(0, message("A2", "", "AL AL")), c.want...)
	}
}

// Tears of which just one keeps all, or nothing, leave both.
func TestCompactHalfWayByEachTear(t *testing.T) {
	for _, tears := range [][2]int{{0, 1}, {1, 0}, {0, area}, {area, 0}, {area - 1, area}, {area, area - 1}} {
		s := plainSetup()
		s.Sides[0].Compact = 1
		p := begun(t, s)
		goes(t, p, submitting(0, message("A1", "", "")))
		goes(t, p, fusing(0, 3))
		goes(t, p, of(api.EvCompact, 0), down(0))
		goes(t, p, crashing(0, tears[0], tears[1]))
		goes(t, p, restarting(0), up(0), out(0, message("A1", "", "")))
		goes(t, p, fusing(0, 1))
		may(t, p, submitting(0, message("A2", "", "AL AL")), nil, []api.Seen{down(0)})
	}
}

// How far a Compact came tells states apart just where a crash may show it: where no record stands behind the snapshot it does not.
func TestStatesOfACompactHalfWay(t *testing.T) {
	for _, c := range []struct {
		records, fuse int
		dead, crashed int
	}{
		{0, 2, 1, 1},
		{1, 2, 2, 2},
		{1, 3, 3, 2},
		{2, 3, 3, 2},
	} {
		p := begun(t, roomy(plainSetup()))
		for i := range c.records {
			id := []string{"A1", "A2"}[i]
			goes(t, p, submitting(0, message(id, "", "")))
		}
		goes(t, p, crashing(0, area, area), down(0))
		goes(t, p, fusing(0, c.fuse))
		list, err := p.May(restarting(0))
		if err != nil {
			t.Fatal(err)
		}
		steps(t, p, restarting(0), list[len(list)-1]...)
		if len(p.spots) != 3 {
			t.Errorf("%+v: %d states", c, len(p.spots))
		}
		goes(t, p, of(api.EvCompact, 0), down(0))
		if len(p.spots) != c.dead {
			t.Errorf("%+v: %d states behind the Compact", c, len(p.spots))
		}
		goes(t, p, crashing(0, 5, 5))
		if len(p.spots) != c.crashed {
			t.Errorf("%+v: %d states behind the crash", c, len(p.spots))
		}
	}
}

// What a Compact ahead of a step has let out has left, also where the disk dies behind it; where it dies in the Compact nothing has.
func TestDeathAheadOfAStep(t *testing.T) {
	for fuse := range 8 {
		s := plainSetup()
		s.Sides[0].Compact = 1
		d := newDuo(t, s)
		d.sees(submitting(0, message("A1", "", "")))
		d.sees(fusing(0, fuse))
		e := submitting(0, message("A2", "", "NE NE"))
		switch {
		case fuse < 5:
			d.sees(e, down(0))
		case fuse < 7:
			d.sees(e, out(0, message("A1", "", "")), down(0))
		default:
			d.sees(e, out(0, message("A1", "", "")))
		}
	}
}

// A clock goes on also where the disk dies on the way.
func TestClockOfTheDead(t *testing.T) {
	s := numbers()
	s.Sides[0].Sequence = true
	d := newDuo(t, s)
	d.sees(submitting(0, message("A1", "", "")))
	d.sees(fusing(0, 0))
	d.sees(ticking(both, 12), down(0))
	d.sees(ticking(0, 7))
	d.sees(crashing(0, 0, 0))
	d.sees(restarting(0), up(0))
	d.sees(probing(0, "P1"), out(0, "MSH|^~\\&|LAB||HIS||20260105000019||QRY^Q01|P1|P|2.5.1|0\r"))
}

func TestFusesOfTheDead(t *testing.T) {
	d := newDuo(t, plainSetup())
	d.sees(fusing(1, 0))
	d.sees(syncing(1), down(1))
	for _, n := range []int{-1, 0, 1, 1000000} {
		d.sees(fusing(1, n), isRefused(1, api.ErrDead))
	}
	d.sees(restarting(1), isRefused(1, api.ErrDead))
	for _, e := range []api.Event{submitting(1, ""), judging(1, "", ""), syncing(1), of(api.EvCompact, 1), probing(1, ""), resyncing(1, "", 0)} {
		d.sees(e, isRefused(1, api.ErrDead))
	}
	d.sees(crashing(1, 0, 0))
	// The crash took the fuse.
	d.sees(restarting(1), up(1))
	d.sees(restarting(1), isRefused(1, api.ErrTwice))
	d.sees(syncing(1))
	// One that is put in while the side is down is there behind the restart.
	d.sees(crashing(1, 0, 0), down(1))
	goes(t, d.p, fusing(1, 2))
	goes(t, d.p, restarting(1), up(1))
	may(t, d.p, syncing(1), nil, []api.Seen{down(1)})
	steps(t, d.p, syncing(1))
	may(t, d.p, syncing(1), nil, []api.Seen{down(1)})
	steps(t, d.p, syncing(1))
	goes(t, d.p, syncing(1), down(1))
}

// The writes of a restart: none, one or two.
func TestFusesOfRestarts(t *testing.T) {
	for fuse, want := range [][][]api.Seen{
		{{down(0)}, {up(0)}},
		{{down(0)}, {up(0)}},
		{{up(0)}},
		{{up(0)}},
	} {
		p := begun(t, plainSetup())
		goes(t, p, crashing(0, 0, 0), down(0))
		goes(t, p, fusing(0, fuse))
		may(t, p, restarting(0), want...)
		steps(t, p, restarting(0), up(0))
		if states := min(fuse, 2) + 1; len(p.spots) != states {
			t.Errorf("fuse %d: %d states", fuse, len(p.spots))
		}
		// What is left of the fuse is told by the writes behind it.
		for left := fuse; left > 0; left-- {
			if left > 2 {
				may(t, p, syncing(0), nil)
			} else {
				may(t, p, syncing(0), nil, []api.Seen{down(0)})
			}
			steps(t, p, syncing(0))
		}
		goes(t, p, syncing(0), down(0))
	}
	// Tables stay as they are, wherever it died.
	p := begun(t, plainSetup())
	goes(t, p, submitting(0, message("A1", "", "")))
	goes(t, p, crashing(0, area, area), down(0))
	for range 3 {
		goes(t, p, fusing(0, 0))
		may(t, p, restarting(0), []api.Seen{down(0)}, []api.Seen{up(0), out(0, message("A1", "", ""))})
		steps(t, p, restarting(0), down(0))
		goes(t, p, restarting(0), isRefused(0, api.ErrDead))
		goes(t, p, crashing(0, 0, 0))
	}
	goes(t, p, restarting(0), up(0), out(0, message("A1", "", "")))
}
