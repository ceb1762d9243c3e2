package world

import (
	"courier/api"
	"courier/engine"
)

// deed is what an event does; an error of it is seen as the side's refusal.
type deed func(*run, api.Event) ([]api.Seen, error)

// deeds stand by the kinds of event.
func deeds() [api.EvRaw + 1]deed {
	return [...]deed{
		api.EvSubmit:  (*run).submit,
		api.EvVerdict: (*run).verdict,
		api.EvTick:    (*run).tick,
		api.EvSync:    (*run).sync,
		api.EvCompact: (*run).compact,
		api.EvFuse:    (*run).fuse,
		api.EvCrash:   (*run).crash,
		api.EvRestart: (*run).restart,
		api.EvProbe:   (*run).probe,
		api.EvResync:  (*run).resync,
		api.EvCarry:   (*run).carry,
		api.EvDrop:    (*run).drop,
		api.EvDouble:  (*run).double,
		api.EvClip:    (*run).clip,
		api.EvNoise:   (*run).noise,
		api.EvRaw:     (*run).raw,
	}
}

// ask does what only a side that is up can do.
func (r *run) ask(side int, do func(*engine.Engine) ([]api.Seen, error)) ([]api.Seen, error) {
	x := r.sides[side].engine
	if x == nil {
		return nil, fault(0, api.ErrDead)
	}
	return do(x)
}

func (r *run) submit(e api.Event) ([]api.Seen, error) {
	return r.ask(e.Side, func(x *engine.Engine) ([]api.Seen, error) { return x.Submit(e.Text) })
}

func (r *run) verdict(e api.Event) ([]api.Seen, error) {
	return r.ask(e.Side, func(x *engine.Engine) ([]api.Seen, error) {
		return x.Verdict(e.Control, e.Code, e.Errors)
	})
}

func (r *run) sync(e api.Event) ([]api.Seen, error) {
	return r.ask(e.Side, (*engine.Engine).Sync)
}

func (r *run) compact(e api.Event) ([]api.Seen, error) {
	return r.ask(e.Side, (*engine.Engine).Compact)
}

func (r *run) probe(e api.Event) ([]api.Seen, error) {
	return r.ask(e.Side, func(x *engine.Engine) ([]api.Seen, error) { return x.Probe(e.Control) })
}

func (r *run) resync(e api.Event) ([]api.Seen, error) {
	return r.ask(e.Side, func(x *engine.Engine) ([]api.Seen, error) {
		return x.Resync(e.Control, e.Count)
	})
}

// tick lets clocks go on, of sides that are down too: a restart begins at its side's.
func (r *run) tick(e api.Event) ([]api.Seen, error) {
	var all []api.Seen
	for side := range r.sides {
		if e.Side != both && e.Side != side {
			continue
		}
		x := &r.sides[side]
		x.clock = min(x.clock+e.Count, api.MaxTick)
		if x.engine != nil {
			told, err := x.engine.Tick(e.Count)
			all = append(all, orRefused(side, told, err)...)
		}
	}
	return all, nil
}

func (r *run) fuse(e api.Event) ([]api.Seen, error) {
	d := r.sides[e.Side].disk
	if !d.Alive() {
		return nil, fault(0, api.ErrDead)
	}
	d.Fuse(e.Count)
	return nil, nil
}

func (r *run) crash(e api.Event) ([]api.Seen, error) {
	x := &r.sides[e.Side]
	x.disk.Crash(e.Tears)
	if x.engine == nil {
		return nil, nil
	}
	return []api.Seen{{Kind: api.SeenDown, Side: e.Side}}, nil
}

func (r *run) restart(e api.Event) ([]api.Seen, error) {
	x := &r.sides[e.Side]
	if x.engine != nil {
		return nil, fault(0, api.ErrTwice)
	}
	if !x.disk.Alive() {
		return nil, fault(0, api.ErrDead)
	}
	return r.start(e.Side, engine.Open)
}

// carry lets a piece arrive; at a side that is down it is gone all the same.
func (r *run) carry(e api.Event) ([]api.Seen, error) {
	p, err := r.link.Carry(e.Side, e.Index, e.Count)
	other := r.sides[1-e.Side].engine
	if err != nil || other == nil {
		return nil, err
	}
	return other.Arrive(p)
}

func (r *run) drop(e api.Event) ([]api.Seen, error) { return nil, r.link.Drop(e.Side, e.Index) }

func (r *run) double(e api.Event) ([]api.Seen, error) { return nil, r.link.Double(e.Side, e.Index) }

func (r *run) clip(e api.Event) ([]api.Seen, error) {
	return nil, r.link.Clip(e.Side, e.Index, e.Count)
}

func (r *run) noise(e api.Event) ([]api.Seen, error) { return nil, r.link.Noise(e.Side, e.Text) }

func (r *run) raw(e api.Event) ([]api.Seen, error) { return nil, r.link.Raw(e.Side, e.Text) }
