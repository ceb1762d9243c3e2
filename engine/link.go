package engine

import (
	"courier/api"
	"courier/tree"
)

// What a link message says in MSH-9 and MSH-13.
const (
	linkCode     = "QRY"
	linkEvent    = "Q01"
	probeNumber  = "0"
	resyncNumber = "-1"
)

// question is the link message under way; its zero value is none.
type question struct {
	api.LinkWait
	text []byte // goes out again as it is, whatever the clock says then
}

func (q question) isUnderWay() bool { return q.Control != "" }

// refuseLink tells why no link message can go out.
func (i *initiator) refuseLink(control string) error {
	switch {
	case !isControl(control):
		return fault(0, api.ErrForm)
	case !i.own.Sequence:
		return fault(0, api.ErrOff)
	case i.box.Len() > 0 || i.link.isUnderWay():
		return fault(0, api.ErrBusy)
	}
	return nil
}

// ask sends a link message for the first time.
func (i *initiator) ask(w api.LinkWait) error {
	w.Left = i.own.Tries
	i.link = question{w, i.linkText(w)}
	i.sendLink()
	return nil
}

func (i *initiator) sendLink() {
	i.send(i.link.text)
	i.link.Due = i.oneInterval()
}

// linkText is an MSH alone, under this side's marks.
func (i *initiator) linkText(w api.LinkWait) []byte {
	number := probeNumber
	if w.Reset {
		number = resyncNumber
	}
	k := i.own.Marks
	m := api.Message{Marks: k, Segs: []api.Seg{{Name: "MSH", Fields: []api.Field{
		written(k, i.own.App),
		written(k, i.own.Facility),
		written(k, i.other.App),
		written(k, i.other.Facility),
		written(k, i.stamp()),
		{},
		written(k, linkCode, linkEvent),
		written(k, w.Control),
		written(k, i.other.Process),
		written(k, i.version),
		written(k, number),
	}}}}
	// Layer 6 refuses none of these: each text is short, and escaped.
	text, _ := tree.Print(m)
	return text
}

// linkDue: the link message's timer has run out.
func (i *initiator) linkDue() error {
	if i.link.Left == 0 {
		return i.settleLink(api.StateFailed, "", nil)
	}
	i.link.Left--
	i.sendLink()
	return nil
}

// linkHeard: the link message was acknowledged. It is in original mode, in which no commit can come.
func (i *initiator) linkHeard(a api.Ack) error {
	if isCommit(a.Code) {
		i.strange()
		return nil
	}
	if next := i.agreed(a); next != 0 {
		if err := i.write(api.Record{Kind: api.RecNext, Number: next}); err != nil {
			return err
		}
	}
	return i.settleLink(api.StateAnswered, a.Code, a.Errors)
}

// agreed is the number on which both sides agree by an answer to the link message; 0: on none.
func (i *initiator) agreed(a api.Ack) int {
	switch {
	case a.Code != appAccept:
		return 0
	case i.link.Reset:
		return i.link.Next
	}
	return max(a.Expect, 0)
}

// settleLink ends the link message. No record tells of it: a crash forgets it in any case.
func (i *initiator) settleLink(state int, code string, found []api.Finding) error {
	i.tell(api.Seen{Kind: api.SeenAnswer, Control: i.link.Control, State: state, Code: code, Errors: found})
	i.link = question{}
	return i.turn()
}
