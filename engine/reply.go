package engine

import (
	"courier/ack"
	"courier/api"
)

// The codes of acknowledgements that an engine itself looks at or gives; all of the commit's begin with the same letter, and all of the application's.
const (
	commitAccept = "CA"
	appAccept    = "AA"
	appError     = "AE"
	appReject    = "AR"
	commitLetter = "C"
)

// noNumber is the Expect of an acknowledgement without MSA-4.
const noNumber = -1

func isCommit(code string) bool { return code[:1] == commitLetter }

// saying is what an acknowledgement says.
type saying struct {
	code   string
	expect int
	found  []api.Finding
}

// signed gives an acknowledgement of this side, from one that knows whom it answers.
func (r *responder) signed(a api.Ack, s saying) api.Ack {
	a.From, a.FromPlace = [3]string{r.own.App}, [3]string{r.own.Facility}
	a.Stamp = r.stamp()
	a.Process, a.Version = r.own.Process, r.version
	a.Control = s.code[:1] + a.For
	a.Code, a.Expect, a.Errors = s.code, s.expect, s.found
	return a
}

// reply is the text of the acknowledgement that goes back to the message of this MSH. Layer 10 refuses none whose message has a control id.
func (r *responder) reply(h head, enhanced bool, s saying) []byte {
	a := r.signed(ack.Answer(h.marks, h.seg), s)
	a.Enhanced = enhanced
	text, _ := ack.Text(a)
	return text
}
