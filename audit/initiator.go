package audit

import (
	"slices"

	"courier/ack"
	"courier/api"
	"courier/decide"
	"courier/tree"
)

// sent is what a crash forgets of an outstanding message.
type sent struct {
	api.Want
	under bool
	due   int // 0: never
}

func (s *endpoint) submit(text []byte) ([]api.Seen, api.Errno) {
	r, code := s.submission(text)
	if code != api.OK {
		return nil, code
	}
	return s.step(func() {
		s.record(r)
		s.sent = append(s.sent, sent{})
		s.turn()
	}), api.OK
}

// submission is the record of a message that is submitted, or why it is refused.
func (s *endpoint) submission(text []byte) (api.Record, api.Errno) {
	m, err := tree.Parse(text)
	if err != nil {
		return api.Record{}, codeOf(err)
	}
	h := headingOf(m)
	control := h.control()
	cond, wrong := h.conditions()
	number, ok := h.fields[fieldNumber].one()
	if ack.Is(m) || control == "" || !ok || number != "" || wrong != 0 {
		return api.Record{}, api.ErrForm
	}
	one, err := tree.Print(m)
	if err == nil && s.own.Sequence {
		_, err = tree.Print(numbered(m, api.MaxNumber))
	}
	switch {
	case err != nil:
		return api.Record{}, api.ErrLong
	case s.outPlace(control) >= 0 || control == s.link.Control:
		return api.Record{}, api.ErrTwice
	case len(s.tables.Out) == api.MaxOut:
		return api.Record{}, api.ErrFull
	case s.own.Sequence && s.tables.Next == 0:
		return api.Record{}, api.ErrSpent
	}
	return api.Record{Kind: api.RecOut, Control: control, Text: one, Cond: cond}, api.OK
}

// outPlace is the place of an outstanding message; -1: there is none.
func (s *endpoint) outPlace(control string) int {
	return slices.IndexFunc(s.tables.Out, func(o api.Out) bool { return o.Control == control })
}

// turn lets out what may go out now.
func (s *endpoint) turn() {
	for at := s.turnPlace(); at >= 0; at = s.turnPlace() {
		s.goOut(at)
	}
}

// turnPlace is the place of the message that goes out next; -1: none does. With sequencing none overtakes the oldest, nor a link message.
func (s *endpoint) turnPlace() int {
	if !s.own.Sequence {
		return slices.IndexFunc(s.sent, func(x sent) bool { return !x.under })
	}
	if len(s.sent) > 0 && !s.sent[0].under && s.link.Control == "" {
		return 0
	}
	return -1
}

// goOut lets a message out for the first time since New or a restart.
func (s *endpoint) goOut(at int) {
	o := s.tables.Out[at]
	if s.own.Sequence && o.Number == 0 {
		if s.tables.Next == 0 {
			s.settle(at, api.WantFailed, "", nil)
			return
		}
		s.record(api.Record{Kind: api.RecNumber, Control: o.Control, Number: s.tables.Next})
	}
	s.sent[at].under = true
	// Layer 11 takes the tries of a setup, and what a ledger has noted.
	want, acts, _ := decide.Start(o.Cond, s.own.Tries, o.Noted)
	s.do(at, want, acts, answer{})
}

// answer is what an acknowledgement has told beside its code: the number that is expected (0: none), and the errors.
type answer struct {
	expect int
	found  []api.Finding
}

// do does acts of an outstanding message, and leaves it where it stands behind them.
func (s *endpoint) do(at int, want api.Want, acts []api.Act, a answer) {
	s.sent[at].Want = want
	control := s.tables.Out[at].Control
	for _, act := range acts {
		switch act.Kind {
		case api.ActSend:
			s.sendOut(at)
		case api.ActTimer:
			s.sent[at].due = s.soon()
		case api.ActNote:
			s.record(api.Record{Kind: api.RecCommit, Control: control})
		case api.ActNumber:
			s.record(api.Record{Kind: api.RecNumber, Control: control, Number: a.expect})
		case api.ActFinal:
			s.settle(at, want.State, act.Code, a.found)
		}
	}
}

// sendOut sends a message under its number. One that was submitted is read, and has room for every number.
func (s *endpoint) sendOut(at int) {
	o := s.tables.Out[at]
	if m, err := tree.Parse(o.Text); err == nil {
		text, _ := tree.Print(numbered(m, o.Number))
		s.send(text)
	}
}

// soon is the tick one interval from now; 0: it never comes.
func (s *endpoint) soon() int {
	if tick := s.now + s.own.Every; tick <= api.MaxTick {
		return tick
	}
	return 0
}

// settle lets a message leave the outstanding ones.
func (s *endpoint) settle(at int, state int, code string, found []api.Finding) {
	control := s.tables.Out[at].Control
	s.record(api.Record{Kind: api.RecFinal, Control: control, State: state, Code: code})
	s.sent = slices.Delete(s.sent, at, at+1)
	s.tell(api.Seen{Kind: api.SeenAnswer, Control: control, State: toldAs(state), Code: code, Errors: found})
}

// toldAs is how the application is told of a final state.
func toldAs(state int) int {
	switch state {
	case api.WantAnswered:
		return api.StateAnswered
	case api.WantClosed:
		return api.StateClosed
	}
	return api.StateFailed
}

// heard: an acknowledgement has come. What is strange changes nothing.
func (s *endpoint) heard(m api.Message) {
	a, err := ack.Read(m)
	if err != nil {
		return
	}
	if a.For == s.link.Control {
		s.linkHeard(a)
		return
	}
	at := s.outPlace(a.For)
	if at < 0 || !s.sent[at].under {
		return
	}
	o, expect := s.tables.Out[at], 0
	if s.own.Sequence {
		expect = expected(a)
	}
	if expect != 0 && expect == o.Number {
		return
	}
	// Layer 11 takes every want that it has told.
	want, acts, _ := decide.Heard(o.Cond, s.sent[at].Want, a.Code, expect != 0)
	s.do(at, want, acts, answer{expect, a.Errors})
	s.turn()
}

// expected is the number by which a message was refused; 0: it was not.
func expected(a api.Ack) int {
	byNumber := slices.ContainsFunc(a.Errors, func(f api.Finding) bool { return f.Code == codeUnable })
	if byNumber && isNumber(a.Expect) && (a.Code == "CE" || a.Code == "AE") {
		return a.Expect
	}
	return 0
}

// tick lets the clock go on, also that of a side that is down.
func (s *endpoint) tick(n int) []api.Seen {
	var seen []api.Seen
	to := min(s.now+n, api.MaxTick)
	if s.up {
		seen = s.step(func() { s.pass(to) })
	}
	s.now = to
	return seen
}

// pass lets come what is due up to a tick, the clock standing at its tick.
func (s *endpoint) pass(to int) {
	for tick := s.nextDue(); tick != 0 && tick <= to; tick = s.nextDue() {
		s.now = tick
		var ids []string
		for at, x := range s.sent {
			if x.due == tick {
				ids = append(ids, s.tables.Out[at].Control)
			}
		}
		slices.Sort(ids)
		for _, id := range ids {
			s.due(s.outPlace(id))
		}
		if s.link.Due == tick {
			s.linkDue()
		}
	}
}

// nextDue is the next tick at which something is due; 0: nothing will be.
func (s *endpoint) nextDue() int {
	next := s.link.Due
	for _, x := range s.sent {
		if x.due != 0 && (next == 0 || x.due < next) {
			next = x.due
		}
	}
	return next
}

// due: a message's timer has run out.
func (s *endpoint) due(at int) {
	want, acts, _ := decide.Due(s.tables.Out[at].Cond, s.sent[at].Want)
	s.do(at, want, acts, answer{})
	s.turn()
}
