package engine

import (
	"slices"

	"courier/ack"
	"courier/api"
	"courier/outbox"
	"courier/tree"
	"courier/wheel"
)

// initiator is the half of an engine that submits: what is outstanding, its timers, and the link message.
type initiator struct {
	*desk
	box    *outbox.Box
	timers *wheel.Wheel[string]
	link   question
}

// submission is the record of a message that is submitted, or why it is refused.
func (i *initiator) submission(text []byte) (api.Record, error) {
	m, err := tree.Parse(text)
	if err != nil {
		return api.Record{}, passedOn(placeOf(err), err)
	}
	h := headOf(m)
	if err := i.refuseForm(m, h); err != nil {
		return api.Record{}, err
	}
	one, err := tree.Print(m)
	if err == nil && i.own.Sequence {
		_, err = tree.Print(numbered(m, api.MaxNumber))
	}
	if err != nil {
		return api.Record{}, fault(fieldNumber, api.ErrLong)
	}
	if err := i.refuseMore(h.control()); err != nil {
		return api.Record{}, err
	}
	cond, _ := h.conditions()
	return api.Record{Kind: api.RecOut, Control: h.control(), Text: one, Cond: cond}, nil
}

// refuseForm looks at a message that is submitted for itself.
func (i *initiator) refuseForm(m api.Message, h head) error {
	number, ok := h.text(fieldNumber)
	_, wrong := h.conditions()
	switch {
	case ack.Is(m):
		return fault(0, api.ErrForm)
	case h.control() == "":
		return fault(fieldControl, api.ErrForm)
	case !ok || number != "":
		return fault(fieldNumber, api.ErrForm)
	case wrong != 0:
		return fault(wrong, api.ErrForm)
	}
	return nil
}

// refuseMore looks at it beside those that are outstanding.
func (i *initiator) refuseMore(control string) error {
	_, err := i.box.Get(control)
	switch {
	case err == nil || control == i.link.Control:
		return fault(fieldControl, api.ErrTwice)
	case i.box.Len() == api.MaxOut:
		return fault(0, api.ErrFull)
	case i.own.Sequence && i.next() == 0:
		return fault(0, api.ErrSpent)
	}
	return nil
}

// next is the sender's next number; 0: none is left.
func (i *initiator) next() int { return i.book.Tables().Next }

func (i *initiator) submit(r api.Record) error {
	if err := i.write(r); err != nil {
		return err
	}
	if err := i.box.Add(r.Control, r.Text, r.Cond); err != nil {
		return err
	}
	return i.turn()
}

// turn lets out what may go out now. In a box with sequencing none overtakes the oldest.
func (i *initiator) turn() error {
	for !i.link.isUnderWay() {
		o, has := i.box.Next()
		if !has {
			break
		}
		if err := i.goOut(o); err != nil {
			return err
		}
	}
	return nil
}

// goOut lets a message out for the first time since New or Open.
func (i *initiator) goOut(o api.Out) error {
	if i.own.Sequence && o.Number == 0 {
		o.Number = i.next()
		if o.Number == 0 {
			return i.giveUp(o.Control)
		}
		if err := i.write(api.Record{Kind: api.RecNumber, Control: o.Control, Number: o.Number}); err != nil {
			return err
		}
		if err := i.box.Give(o.Number); err != nil {
			return err
		}
	}
	deeds, err := i.box.Go()
	if err != nil {
		return err
	}
	return i.do(&affair{Sent: api.Sent{Out: o}}, deeds)
}

// giveUp settles the oldest message, for which no number is left. It never went out, so the box is made anew without it: with sequencing no other one is under way.
func (i *initiator) giveUp(control string) error {
	if err := i.settle(api.Record{Control: control, State: api.WantFailed}, nil); err != nil {
		return err
	}
	box, err := outbox.Load(i.book.Tables().Out, i.own.Sequence, i.own.Tries)
	i.box = box
	return err
}

// settle lets a message leave the outstanding ones, with a record of which the kind alone is not told.
func (i *initiator) settle(r api.Record, found []api.Finding) error {
	r.Kind = api.RecFinal
	if err := i.write(r); err != nil {
		return err
	}
	i.tell(api.Seen{Kind: api.SeenAnswer, Control: r.Control, State: toldAs(r.State), Code: r.Code, Errors: found})
	i.timers.Stop(r.Control)
	return nil
}

// toldAs is how the application is told of a final state.
func toldAs(state int) int {
	switch state {
	case api.WantAnswered:
		return api.StateAnswered
	case api.WantClosed:
		return api.StateClosed
	}
	return api.StateFailed
}

// heard: an acknowledgement has come.
func (i *initiator) heard(m api.Message) error {
	a, err := ack.Read(m)
	if err != nil {
		i.strange()
		return nil
	}
	if a.For == i.link.Control {
		return i.linkHeard(a)
	}
	s, err := i.box.Get(a.For)
	if err != nil || !s.Under {
		i.strange()
		return nil
	}
	f := affair{Sent: s, expect: expected(a), found: a.Errors}
	deeds, err := i.box.Heard(a.For, a.Code, f.expect)
	if err != nil {
		return err
	}
	if err := i.do(&f, deeds); err != nil {
		return err
	}
	return i.turn()
}

// expected is the number by which a message was refused; 0: it was not.
func expected(a api.Ack) int {
	byNumber := slices.ContainsFunc(a.Errors, func(f api.Finding) bool { return f.Code == codeUnable })
	if byNumber && isNumber(a.Expect) {
		return a.Expect
	}
	return 0
}

func (i *initiator) strange() { count(&i.counts.Strange, 1) }

// pass lets come, up to a tick, what is due on the way, the clock standing at its tick.
func (i *initiator) pass(to int) error {
	for tick := i.nextDue(); tick != 0 && tick <= to; tick = i.nextDue() {
		i.now = tick
		due, err := i.timers.Advance(tick)
		if err != nil {
			return err
		}
		for _, d := range due {
			if err := i.due(d.Key); err != nil {
				return err
			}
		}
		if i.link.Due == tick {
			if err := i.linkDue(); err != nil {
				return err
			}
		}
	}
	_, err := i.timers.Advance(to)
	return err
}

// nextDue is the next tick at which something is due; 0: nothing will be.
func (i *initiator) nextDue() int {
	tick, has := i.timers.Next()
	if !has || i.link.Due != 0 && i.link.Due < tick {
		return i.link.Due
	}
	return tick
}

// due: a message's timer has run out.
func (i *initiator) due(control string) error {
	s, err := i.box.Get(control)
	if err != nil {
		return err
	}
	deeds, err := i.box.Due(control)
	if err != nil {
		return err
	}
	if err := i.do(&affair{Sent: s}, deeds); err != nil {
		return err
	}
	return i.turn()
}

// dues are the ticks at which the outstanding messages are due.
func (i *initiator) dues() []int {
	var list []int
	for _, s := range i.box.List() {
		tick, _ := i.timers.At(s.Control)
		list = append(list, tick)
	}
	return list
}
