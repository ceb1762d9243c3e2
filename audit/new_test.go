package audit

import (
	"errors"
	"strings"
	"testing"

	"courier/api"
	"courier/setup"
)

// P2101: New.

// wrongSetups are setups with one field that may not be, by the number that layer 17 gives it.
func wrongSetups() map[int]api.Setup {
	list := map[int]api.Setup{}
	put := func(at int, change func(s *api.Setup)) {
		s := plainSetup()
		change(&s)
		list[at] = s
	}
	put(1, func(s *api.Setup) { s.Start = "2026" })
	put(2, func(s *api.Setup) { s.Version = "9" })
	for i := range 2 {
		put(3+8*i, func(s *api.Setup) { s.Sides[i].App = "" })
		put(4+8*i, func(s *api.Setup) { s.Sides[i].Facility = "a b" })
		put(5+8*i, func(s *api.Setup) { s.Sides[i].Marks.Sub = '|' })
		put(6+8*i, func(s *api.Setup) { s.Sides[i].Process = "X" })
		put(7+8*i, func(s *api.Setup) { s.Sides[i].Every = 10001 })
		put(8+8*i, func(s *api.Setup) { s.Sides[i].Tries = 17 })
		put(9+8*i, func(s *api.Setup) { s.Sides[i].Keep = 65 })
		put(10+8*i, func(s *api.Setup) { s.Sides[i].Compact = 257 })
	}
	put(19, func(s *api.Setup) { s.Profile = "table" })
	return list
}

func isSetupsRefusal(t *testing.T, err error, at int) {
	t.Helper()
	var f, under *api.Fault
	if !errors.As(err, &f) || f.Layer != "audit" || f.At != 0 || f.Code != api.ErrSetup {
		t.Fatalf("field %d: %v", at, err)
	}
	if !errors.As(f.Under, &under) || *under != (api.Fault{Layer: "setup", At: at, Code: api.ErrSetup}) || !errors.Is(err, api.ErrSetup) {
		t.Fatalf("field %d: under is %v", at, f.Under)
	}
}

func TestNewRefusesSetups(t *testing.T) {
	list := wrongSetups()
	if len(list) != 19 {
		t.Fatalf("%d fields", len(list))
	}
	for at, s := range list {
		p, err := New(s)
		if p != nil {
			t.Errorf("field %d: a Pair", at)
		}
		isSetupsRefusal(t, err, at)
	}
	// Of several fields the first is told, as layer 17 does.
	s := list[9]
	s.Profile, s.Sides[1].App = "x", ""
	_, err := New(s)
	isSetupsRefusal(t, err, 9)
	_, err = New(api.Setup{})
	isSetupsRefusal(t, err, 1)
}

func TestNewTakesSetups(t *testing.T) {
	for _, change := range []func(s *api.Setup){
		func(s *api.Setup) {},
		func(s *api.Setup) { s.Profile = "" },
		func(s *api.Setup) { s.Profile = strings.Repeat("#", 32768) },
		func(s *api.Setup) { s.Start, s.Version = "99991231235959", "2.1" },
		func(s *api.Setup) { s.Sides[0].App, s.Sides[1].App = "a_.-0123456789012345", "LAB" },
		func(s *api.Setup) { s.Sides[1].Marks = api.Marks{Field: '-', Comp: '.', Rep: '_', Esc: '!', Sub: '"'} },
		func(s *api.Setup) {
			s.Sides[0] = api.Side{App: "A", Marks: common, Process: "T", Sequence: true, Every: 10000, Tries: 16, Keep: 64, Compact: 256}
		},
		func(s *api.Setup) {
			s.Sides[1].Every, s.Sides[1].Tries, s.Sides[1].Keep, s.Sides[1].Compact = 1, 0, 1, 1
		},
	} {
		s := plainSetup()
		change(&s)
		if err := setup.Check(s); err != nil {
			t.Fatal(err)
		}
		p := begun(t, s)
		if len(p.spots) != 1 {
			t.Errorf("%+v: %d states", s, len(p.spots))
		}
		for side := range 2 {
			may(t, p, syncing(side), nil)
			may(t, p, of(api.EvCompact, side), nil)
			may(t, p, ticking(side, 100000), nil)
			may(t, p, restarting(side), []api.Seen{isRefused(side, api.ErrTwice)})
			may(t, p, crashing(side, 0, 0), []api.Seen{down(side)})
			may(t, p, carrying(side, 0, 0), []api.Seen{isRefused(side, api.ErrRange)})
			may(t, p, judging(side, "A1", "AA"), []api.Seen{isRefused(side, api.ErrSide)})
		}
		// No fuse is there, and none of the disk's writes waits.
		explored(t, s, crashing(0, 1, 1), restarting(0), crashing(1, 1, 1), restarting(1))
	}
}

// Both clocks are 0 at the beginning: the link messages say so.
func TestNewClocks(t *testing.T) {
	s := numbers()
	s.Sides[1].Sequence = true
	p := begun(t, s)
	goes(t, p, probing(0, "P1"), out(0, "MSH|^~\\&|LAB||HIS||20260105000000||QRY^Q01|P1|P|2.5.1|0\r"))
	goes(t, p, probing(1, "P2"), out(1, "MSH|^~\\&|HIS||LAB||20260105000000||QRY^Q01|P2|P|2.5.1|0\r"))
}
