package engine

import (
	"slices"

	"courier/ack"
	"courier/api"
	"courier/decide"
	"courier/mllp"
	"courier/profile"
	"courier/tree"
)

// maxPiece is how many bytes may arrive at once: those of one frame.
const maxPiece = api.MaxMessage + 3

// responder is the half of an engine that answers.
type responder struct {
	*desk
	profile *profile.Profile
	frames  *mllp.Deframer
}

// take takes bytes of the link, and looks at what of them is whole.
func (e *Engine) take(p []byte) error {
	for _, part := range e.frames.Feed(p) {
		if part.Kind == api.PartGarbage {
			count(&e.counts.Garbage, part.N)
			continue
		}
		if err := e.lookAt(part); err != nil {
			return err
		}
	}
	return nil
}

// look is one thing that a frame may be. It tells whether that applies, and then has done what is to be done.
type look func(a *arrival) (bool, error)

// looks are all of them, in their order; the last one applies to whatever comes to it.
func (e *Engine) looks() [10]look {
	return [...]look{
		e.isBroken,
		e.isAcknowledgement,
		e.isLink,
		e.hasWrongHead,
		e.hasWrongStructure,
		e.isTooLong,
		e.isKnown,
		e.isOutOfOrder,
		e.isTooMany,
		e.isAccepted,
	}
}

func (e *Engine) lookAt(p api.Part) error {
	a := &arrival{part: p, tables: e.book.Tables()}
looking:
	for _, applies := range e.looks() {
		done, err := applies(a)
		switch {
		case err != nil:
			return err
		case done:
			break looking
		}
	}
	return nil
}

// isAcknowledgement: what answers a message of this side is for the other half.
func (e *Engine) isAcknowledgement(a *arrival) (bool, error) {
	if !ack.Is(a.message) {
		return false, nil
	}
	return true, e.heard(a.message)
}

// accept keeps a message, with the commit that is sent for it.
func (r *responder) accept(x api.InEntry, h head, c api.Conditions) error {
	_, acts, err := decide.Take(c)
	if err != nil {
		return err
	}
	if hasAct(acts, api.ActCommit) {
		x.Commit = r.reply(h, c.Enhanced, saying{code: commitAccept, expect: noNumber})
	}
	err = r.write(api.Record{Kind: api.RecIn, Control: x.Control, Text: x.Text, Number: x.Number, Tick: x.Tick, Commit: x.Commit})
	if err != nil {
		return err
	}
	return r.do(x, acts)
}

// refuseVerdict tells why a verdict is not taken.
func (r *responder) refuseVerdict(control, code string, found []api.Finding) error {
	if code != appAccept && code != appError && code != appReject {
		return fault(atCode, api.ErrArg)
	}
	// All else of it is right, whomever it answers: what layer 10 refuses are the findings.
	a := r.signed(api.Ack{Marks: r.own.Marks, For: "0"}, saying{code, noNumber, found})
	if ack.Right(a) != nil {
		return fault(atFound, api.ErrArg)
	}
	if !slices.Contains(r.delivered, control) {
		return fault(atEntry, api.ErrSide)
	}
	return nil
}

// judge puts the application's verdict on a message, with the answer that is sent for it.
func (r *responder) judge(control, code string, found []api.Finding) error {
	x, _ := kept(r.book.Tables(), control)
	// A text that an engine has kept is one that layer 6 reads.
	m, _ := tree.Parse(x.Text)
	h := headOf(m)
	c, _ := h.conditions()
	_, acts, err := decide.Judge(c, api.Kept{}, code)
	if err != nil {
		return err
	}
	if hasAct(acts, api.ActAnswer) {
		x.Answer = r.reply(h, c.Enhanced, saying{code, noNumber, found})
	}
	if err := r.write(api.Record{Kind: api.RecVerdict, Control: control, Code: code, Answer: x.Answer}); err != nil {
		return err
	}
	r.delivered = slices.DeleteFunc(r.delivered, func(id string) bool { return id == control })
	return r.do(x, acts)
}

// doings are what is done with the acts of the half that answers.
func (r *responder) doings() []doing[api.InEntry] {
	return []doing[api.InEntry]{
		{api.ActCommit, r.sendCommit},
		{api.ActDeliver, r.deliver},
		{api.ActAnswer, r.sendAnswer},
	}
}

func (r *responder) do(x api.InEntry, acts []api.Act) error {
	for _, a := range acts {
		if err := perform(r.doings(), a.Kind, x); err != nil {
			return err
		}
	}
	return nil
}

func (r *responder) sendCommit(x api.InEntry) error {
	if len(x.Commit) > 0 {
		r.send(x.Commit)
	}
	return nil
}

func (r *responder) sendAnswer(x api.InEntry) error {
	if len(x.Answer) > 0 {
		r.send(x.Answer)
	}
	return nil
}

func (r *responder) deliver(x api.InEntry) error {
	r.tell(deliveryOf(x))
	return nil
}

// deliverAgain tells the application of the open messages that a crash has left.
func (r *responder) deliverAgain() {
	for _, x := range r.book.Tables().In {
		if isOpen(x) {
			again := deliveryOf(x)
			again.Again = true
			r.tell(again)
		}
	}
}

func deliveryOf(x api.InEntry) api.Seen {
	return api.Seen{Kind: api.SeenDeliver, Control: x.Control, Text: x.Text, Number: x.Number}
}

func isOpen(x api.InEntry) bool { return x.Code == "" }

// kept is the entry of a control id, if it is kept.
func kept(t api.Tables, control string) (api.InEntry, bool) {
	at := slices.IndexFunc(t.In, func(x api.InEntry) bool { return x.Control == control })
	if at < 0 {
		return api.InEntry{}, false
	}
	return t.In[at], true
}

func hasAct(acts []api.Act, kind int) bool {
	return slices.ContainsFunc(acts, func(a api.Act) bool { return a.Kind == kind })
}
