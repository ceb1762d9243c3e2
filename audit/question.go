package audit

import (
	"strings"

	"courier/api"
	"courier/esc"
)

// question is the link message under way; without a control id there is none.
type question struct {
	api.LinkWait
	text string // goes out again as it is, whatever the clock says then
}

// What a link message says in MSH-9 and MSH-13.
const (
	linkCode     = "QRY"
	linkEvent    = "Q01"
	probeNumber  = "0"
	resyncNumber = "-1"
)

// ask sends a link message for the first time.
func (s *endpoint) ask(w api.LinkWait) ([]api.Seen, api.Errno) {
	switch {
	case !isControl(w.Control):
		return nil, api.ErrForm
	case !s.own.Sequence:
		return nil, api.ErrOff
	case len(s.sent) > 0 || s.link.Control != "":
		return nil, api.ErrBusy
	case w.Reset && !isNumber(w.Next):
		return nil, api.ErrArg
	}
	return s.step(func() {
		w.Left = s.own.Tries
		s.link = question{w, s.linkText(w)}
		s.sendLink()
	}), api.OK
}

func (s *endpoint) sendLink() {
	s.send([]byte(s.link.text))
	s.link.Due = s.soon()
}

// linkText is an MSH alone, under this side's marks. Layer 5 refuses none of these texts.
func (s *endpoint) linkText(w api.LinkWait) string {
	k, number := s.own.Marks, probeNumber
	if w.Reset {
		number = resyncNumber
	}
	text, _ := esc.Head("MSH", k)
	for _, parts := range [][]string{
		{s.own.App}, {s.own.Facility}, {s.other.App}, {s.other.Facility}, {s.stamp()}, {},
		{linkCode, linkEvent}, {w.Control}, {s.other.Process}, {s.version}, {number},
	} {
		for i := range parts {
			parts[i], _ = esc.Escape(k, parts[i])
		}
		text += string(rune(k.Field)) + strings.Join(parts, string(rune(k.Comp)))
	}
	return text + "\r"
}

// linkDue: the link message's timer has run out.
func (s *endpoint) linkDue() {
	if s.link.Left == 0 {
		s.settleLink(api.StateFailed, "", nil)
		return
	}
	s.link.Left--
	s.sendLink()
}

// linkHeard: the link message was acknowledged. It is in original mode, in which no commit can come.
func (s *endpoint) linkHeard(a api.Ack) {
	if strings.HasPrefix(a.Code, "C") {
		return
	}
	next := a.Expect
	if s.link.Reset {
		next = s.link.Next
	}
	if a.Code == "AA" && isNumber(next) {
		s.record(api.Record{Kind: api.RecNext, Number: next})
	}
	s.settleLink(api.StateAnswered, a.Code, a.Errors)
}

// settleLink ends the link message. No record tells of it.
func (s *endpoint) settleLink(state int, code string, found []api.Finding) {
	s.tell(api.Seen{Kind: api.SeenAnswer, Control: s.link.Control, State: state, Code: code, Errors: found})
	s.link = question{}
	s.turn()
}
