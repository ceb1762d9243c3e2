package engine

import (
	"errors"

	"courier/api"
	"courier/disk"
	"courier/ledger"
	"courier/mllp"
	"courier/outbox"
	"courier/profile"
	"courier/setup"
	"courier/stamp"
	"courier/wheel"
)

// refuse tells why no engine can be made of this, whatever is on the disk.
func refuse(s api.Setup, side int, d *disk.Disk, now int) error {
	if side != 0 && side != 1 {
		return fault(atSide, api.ErrArg)
	}
	if err := setup.Check(s); err != nil {
		return passedOn(0, err)
	}
	// A dead disk tells its length too: just one that nobody made does not.
	if _, err := d.Len(0); err != nil {
		return fault(atDisk, api.ErrZero)
	}
	if now < 0 || now > api.MaxTick {
		return fault(atNow, api.ErrArg)
	}
	if !d.Alive() {
		return fault(atDisk, api.ErrDead)
	}
	return nil
}

func termsOf(s api.Setup, side int) api.Terms {
	own, other := s.Sides[side], s.Sides[1-side]
	return api.Terms{Sends: own.Sequence, Takes: other.Sequence, Keep: own.Keep}
}

// begin makes the engine of a ledger. What it asks of the layers below they don't refuse: the setup and the clock were looked at, and a ledger's tables may be.
func begin(s api.Setup, side int, book *ledger.Ledger, now int) *Engine {
	start, _ := stamp.Parse(s.Start)
	d := &desk{
		side: side, own: s.Sides[side], other: s.Sides[1-side],
		version: s.Version, start: start, now: now, book: book,
	}
	messages, _ := profile.Parse(s.Profile)
	frames, _ := mllp.New(api.MaxMessage)
	box, _ := outbox.Load(book.Tables().Out, d.own.Sequence, d.own.Tries)
	timers, _ := wheel.New[string](now)
	return &Engine{
		desk:      d,
		responder: &responder{desk: d, profile: messages, frames: frames},
		initiator: &initiator{desk: d, box: box, timers: timers},
	}
}

// lastTick is when the last message was accepted, which is always kept; 0: none was.
func lastTick(x api.Tables) int {
	if n := len(x.In); n > 0 {
		return x.In[n-1].Tick
	}
	return 0
}

func up(side int) api.Seen { return api.Seen{Kind: api.SeenUp, Side: side} }

func down(side int) api.Seen { return api.Seen{Kind: api.SeenDown, Side: side} }

func fault(at int, code api.Errno) error {
	return &api.Fault{Layer: "engine", At: at, Code: code}
}

// passedOn is a refusal of a layer below as this layer's, with the number of that one.
func passedOn(at int, err error) error {
	var f *api.Fault
	if errors.As(err, &f) {
		return &api.Fault{Layer: "engine", At: at, Code: f.Code, Under: err}
	}
	return err
}

// placeOf is the place that a refusal of a layer below tells; 0: nothing was refused.
func placeOf(err error) int {
	var f *api.Fault
	if errors.As(err, &f) {
		return f.At
	}
	return 0
}
