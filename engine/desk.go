package engine

import (
	"bytes"
	"errors"
	"slices"

	"courier/api"
	"courier/ledger"
	"courier/mllp"
	"courier/stamp"
)

// maxCount is where a count stops.
const maxCount = 1 << 53

// desk is what both halves of an engine share: who it is, its clock, its ledger, and what waits for that.
type desk struct {
	side      int
	own       api.Side
	other     api.Side
	version   string
	start     api.Stamp
	now       int
	dead      bool
	book      *ledger.Ledger
	written   int
	safe      int
	held      []api.Held
	delivered []string // open entries whose delivery has left
	counts    api.Counts
}

func (e *Engine) made() bool { return e != nil && e.desk != nil }

// ready refuses an engine that nobody made, and then a dead one: each step's first two reasons.
func (e *Engine) ready() error {
	if !e.made() {
		return fault(0, api.ErrZero)
	}
	if e.dead {
		return fault(0, api.ErrDead)
	}
	return nil
}

// step does one step that was not refused.
func (e *Engine) step(work func() error) []api.Seen {
	left, err := e.compactAhead()
	if err == nil {
		err = work()
	}
	return e.end(left, err)
}

// end lets out what may leave behind what has left. A ledger that has refused anything ends the side: what rests on that must never be told.
func (e *Engine) end(left []api.Seen, err error) []api.Seen {
	if err != nil {
		return append(left, e.die())
	}
	return append(left, e.leave()...)
}

// die forgets all but the clock.
func (e *Engine) die() api.Seen {
	seen := down(e.side)
	*e.desk = desk{now: e.now, dead: true}
	*e.responder, *e.initiator = responder{}, initiator{}
	return seen
}

// compactAhead compacts a log that has grown long, and tells what leaves by that.
func (d *desk) compactAhead() ([]api.Seen, error) {
	if d.book.Stat().Records < d.own.Compact {
		return nil, nil
	}
	err := d.compact()
	if errors.Is(err, api.ErrSpent) {
		// No generation is left: the log goes on as it is.
		return nil, nil
	}
	if err != nil {
		return nil, err
	}
	return d.leave(), nil
}

func (d *desk) compact() error {
	if err := d.book.Compact(); err != nil {
		return err
	}
	d.safe = d.written
	return nil
}

func (d *desk) sync() error {
	if _, err := d.book.Sync(); err != nil {
		return err
	}
	d.safe = d.written
	return nil
}

func (d *desk) write(r api.Record) error {
	if err := d.book.Write(r); err != nil {
		return err
	}
	d.written++
	return nil
}

// tell makes an output, which waits for every record that was written ahead of it.
func (d *desk) tell(s api.Seen) {
	s.Side = d.side
	d.held = append(d.held, api.Held{Seen: s, After: d.written})
}

// send makes the output of a frame, if there is room for it: what a frame says may be asked for again.
func (d *desk) send(text []byte) {
	if len(d.held) >= api.MaxHeld {
		count(&d.counts.Unmade, 1)
		return
	}
	// Layer 4 refuses no text that an engine has made or kept.
	if frame, err := mllp.Frame(text); err == nil {
		d.tell(api.Seen{Kind: api.SeenOut, Text: frame})
	}
}

// leave gives up, in order, the outputs whose records are durable.
func (d *desk) leave() []api.Seen {
	var left []api.Seen
	for _, h := range d.held {
		if h.After > d.safe {
			break
		}
		if h.Seen.Kind == api.SeenDeliver {
			d.delivered = append(d.delivered, h.Seen.Control)
		}
		left = append(left, h.Seen)
	}
	d.held = slices.Clone(d.held[len(left):])
	return left
}

// stamp is the time of now. Layer 1 takes the start of a setup that may be, and every tick of a clock.
func (d *desk) stamp() string {
	s, _ := stamp.At(d.start, d.now)
	text, _ := stamp.Print(s)
	return text
}

// oneInterval is the tick one interval from now; 0: it lies beyond the last one, and never comes.
func (d *desk) oneInterval() int {
	if tick := d.now + d.own.Every; tick <= api.MaxTick {
		return tick
	}
	return 0
}

func count(counter *int, n int) { *counter = min(*counter+n, maxCount) }

func allCopied(held []api.Held) []api.Held {
	list := slices.Clone(held)
	for i := range list {
		list[i].Seen.Text = bytes.Clone(list[i].Seen.Text)
		list[i].Seen.Errors = slices.Clone(list[i].Seen.Errors)
	}
	return list
}
