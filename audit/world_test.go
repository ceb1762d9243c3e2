package audit

import (
	"errors"
	"testing"

	"courier/api"
	"courier/disk"
	"courier/engine"
	"courier/link"
)

// world is the pair itself: two engines on two disks, and the link between them, played event by event as chapter 22 says under P2203.
type world struct {
	t       *testing.T
	setup   api.Setup
	disks   [2]*disk.Disk
	engines [2]*engine.Engine // nil: down
	clocks  [2]int
	link    *link.Link
	fuses   [2]int // how many writes more each disk does; -1: all
}

// newWorld gives it at its beginning, and what was seen of that.
func newWorld(t *testing.T, s api.Setup) (*world, []api.Seen) {
	t.Helper()
	w := &world{t: t, setup: s, link: link.New(), fuses: [2]int{-1, -1}}
	var all []api.Seen
	for side := range 2 {
		w.disks[side] = disk.New()
		e, seen, err := engine.New(s, side, w.disks[side], 0)
		if err != nil {
			t.Fatal(err)
		}
		w.engines[side] = e
		all = append(all, w.out(seen)...)
	}
	return w, all
}

// out puts under way what is let out.
func (w *world) out(seen []api.Seen) []api.Seen {
	var all []api.Seen
	for _, s := range seen {
		all = append(all, s)
		if s.Kind == api.SeenDown {
			w.engines[s.Side] = nil
		}
		if s.Kind == api.SeenOut && w.link.Send(s.Side, s.Text) != nil {
			all = append(all, api.Seen{Kind: api.SeenLost, Side: s.Side})
		}
	}
	return all
}

func refusal(side int, err error) []api.Seen {
	var f *api.Fault
	errors.As(err, &f)
	return []api.Seen{{Kind: api.SeenRefused, Side: side, Errno: f.Code}}
}

// play plays an event that a script can say.
func (w *world) play(e api.Event) []api.Seen {
	before := [2]int{w.writes(0), w.writes(1)}
	seen, err := w.do(e)
	for side := range 2 {
		if w.fuses[side] >= 0 {
			w.fuses[side] -= w.writes(side) - before[side]
		}
	}
	if err != nil {
		return refusal(e.Side, err)
	}
	switch e.Kind {
	case api.EvFuse:
		w.fuses[e.Side] = e.Count
	case api.EvCrash:
		w.fuses[e.Side] = -1
	}
	return w.out(seen)
}

// writes is how many a side's disk has done.
func (w *world) writes(side int) int {
	x := w.disks[side].Counts()
	return x.Appends + x.Syncs + x.Cuts
}

func (w *world) do(e api.Event) ([]api.Seen, error) {
	dead := &api.Fault{Layer: "world", Code: api.ErrDead}
	switch e.Kind {
	case api.EvSubmit, api.EvVerdict, api.EvSync, api.EvCompact, api.EvProbe, api.EvResync:
		if w.engines[e.Side] == nil {
			return nil, dead
		}
		return w.ask(w.engines[e.Side], e)
	case api.EvTick:
		return w.tick(e), nil
	case api.EvFuse:
		if !w.disks[e.Side].Alive() {
			return nil, dead
		}
		w.disks[e.Side].Fuse(e.Count)
		return nil, nil
	case api.EvCrash:
		w.disks[e.Side].Crash(e.Tears)
		if w.engines[e.Side] != nil {
			return []api.Seen{down(e.Side)}, nil
		}
		return nil, nil
	case api.EvRestart:
		return w.restart(e.Side)
	}
	return w.onLink(e)
}

func (w *world) ask(g *engine.Engine, e api.Event) ([]api.Seen, error) {
	switch e.Kind {
	case api.EvSubmit:
		return g.Submit(e.Text)
	case api.EvVerdict:
		return g.Verdict(e.Control, e.Code, e.Errors)
	case api.EvSync:
		return g.Sync()
	case api.EvCompact:
		return g.Compact()
	case api.EvProbe:
		return g.Probe(e.Control)
	}
	return g.Resync(e.Control, e.Count)
}

func (w *world) tick(e api.Event) []api.Seen {
	var all []api.Seen
	for side := range 2 {
		if e.Side != 2 && e.Side != side {
			continue
		}
		w.clocks[side] = min(w.clocks[side]+e.Count, api.MaxTick)
		if w.engines[side] == nil {
			continue
		}
		seen, err := w.engines[side].Tick(e.Count)
		if err != nil {
			w.t.Fatal(err)
		}
		all = append(all, seen...)
	}
	return all
}

func (w *world) restart(side int) ([]api.Seen, error) {
	if w.engines[side] != nil {
		return nil, &api.Fault{Layer: "world", Code: api.ErrTwice}
	}
	if !w.disks[side].Alive() {
		return nil, &api.Fault{Layer: "world", Code: api.ErrDead}
	}
	e, seen, err := engine.Open(w.setup, side, w.disks[side], w.clocks[side])
	w.engines[side] = e
	return seen, err
}

func (w *world) onLink(e api.Event) ([]api.Seen, error) {
	switch e.Kind {
	case api.EvCarry:
		b, err := w.link.Carry(e.Side, e.Index, e.Count)
		if err != nil || w.engines[1-e.Side] == nil {
			return nil, err
		}
		seen, err := w.engines[1-e.Side].Arrive(b)
		if err != nil {
			w.t.Fatal(err)
		}
		return seen, nil
	case api.EvDrop:
		return nil, w.link.Drop(e.Side, e.Index)
	case api.EvDouble:
		return nil, w.link.Double(e.Side, e.Index)
	case api.EvClip:
		return nil, w.link.Clip(e.Side, e.Index, e.Count)
	case api.EvNoise:
		return nil, w.link.Noise(e.Side, e.Text)
	}
	return nil, w.link.Raw(e.Side, e.Text)
}
