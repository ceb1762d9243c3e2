package world

import (
	"courier/api"
	"courier/disk"
	"courier/engine"
	"courier/link"
)

// run is a pair that is being played.
type run struct {
	setup api.Setup
	sides [2]endpoint
	link  *link.Link
}

type endpoint struct {
	disk   *disk.Disk
	engine *engine.Engine // nil: it is down
	clock  int
}

// begin makes a pair, and tells what is seen of that.
func begin(s api.Setup) (*run, []api.Seen) {
	r := &run{setup: s, link: link.New()}
	var all []api.Seen
	for side := range r.sides {
		r.sides[side].disk = disk.New()
		told, err := r.start(side, engine.New)
		all = append(all, r.letOut(orRefused(side, told, err))...)
	}
	return r, all
}

// start is engine.New or engine.Open of a side.
func (r *run) start(side int, with func(api.Setup, int, *disk.Disk, int) (*engine.Engine, []api.Seen, error)) ([]api.Seen, error) {
	x := &r.sides[side]
	made, told, err := with(r.setup, side, x.disk, x.clock)
	x.engine = made
	return told, err
}

// play lets an event happen.
func (r *run) play(e api.Event) []api.Seen {
	told, err := deeds()[e.Kind](r, e)
	return r.letOut(orRefused(e.Side, told, err))
}

// orRefused is what was told, or that the side refused.
func orRefused(side int, told []api.Seen, err error) []api.Seen {
	if err != nil {
		return []api.Seen{{Kind: api.SeenRefused, Side: side, Errno: codeOf(err)}}
	}
	return told
}

// letOut puts under way what was let out, and tells of each whether it found room.
func (r *run) letOut(told []api.Seen) []api.Seen {
	var all []api.Seen
	for _, s := range told {
		all = append(all, s)
		switch s.Kind {
		case api.SeenDown:
			r.sides[s.Side].engine = nil
		case api.SeenOut:
			if r.link.Send(s.Side, s.Text) != nil {
				all = append(all, api.Seen{Kind: api.SeenLost, Side: s.Side})
			}
		}
	}
	return all
}
