package audit

import (
	"bytes"
	"slices"

	"courier/ack"
	"courier/api"
	"courier/decide"
	"courier/seq"
	"courier/tree"
)

// HL7's codes of what is wrong with a message.
const (
	codeSegments = 100
	codeType     = 102
	codeTable    = 103
	codeMessage  = 200
	codeEvent    = 201
	codeProcess  = 202
	codeVersion  = 203
	codeTwice    = 205
	codeUnable   = 207
)

// fieldWhole stands where a finding is about a message as a whole.
const fieldWhole = 1

// noNumber is the Expect of an acknowledgement without MSA-4.
const noNumber = -1

// arrival is what came in a frame, as far as it can be read.
type arrival struct {
	message api.Message
	says    heading
	control string         // empty: there is none
	cond    api.Conditions // of original mode, where a field is none of the five
	wrong   int            // that field; 0: there is none
	text    []byte         // in one form, without MSH-13
}

func arrivalOf(m api.Message) arrival {
	a := arrival{message: m, says: headingOf(m)}
	a.control = a.says.control()
	a.cond, a.wrong = a.says.conditions()
	return a
}

// flaw is why a message is refused: by its header or not, the number that is expected, and the findings; without any nothing is wrong.
type flaw struct {
	isHeader bool
	expect   int
	found    []api.Finding
}

// flawAt is a flaw of a field of the MSH.
func flawAt(isHeader bool, code, field int) flaw {
	return flaw{isHeader, noNumber, []api.Finding{{Code: code, Seg: "MSH", Occur: 1, Field: field, Rep: 1}}}
}

func (f flaw) is() bool { return len(f.found) > 0 }

// arrive takes bytes of the link, and looks at what of them is whole.
func (s *endpoint) arrive(p []byte) []api.Seen {
	return s.step(func() {
		next, parts := s.frame.fed(p)
		s.frame = next
		for _, x := range parts {
			if x.Kind != api.PartGarbage {
				s.lookAt(x)
			}
		}
	})
}

// lookAt does what is to be done with what came in a frame.
func (s *endpoint) lookAt(x api.Part) {
	m, err := tree.Parse(x.Text)
	if x.Kind == api.PartOver || err != nil {
		s.refuseBroken(x)
		return
	}
	a := arrivalOf(m)
	switch {
	case ack.Is(m):
		s.heard(m)
	case s.isQuestion(a):
		s.answerQuestion(a)
	default:
		s.consider(a)
	}
}

// refuseBroken: it is too long, or no message; its first segment may tell whom to answer all the same.
func (s *endpoint) refuseBroken(x api.Part) {
	code := codeSegments
	if x.Kind == api.PartOver {
		code = codeUnable
	}
	// Of a text that can't be read so the message is empty, and has no control id.
	m, _ := tree.Head(x.Text)
	s.refuse(arrivalOf(m), flawAt(true, code, fieldWhole))
}

// refuse answers a message that is not accepted, if its conditions say so. Without a control id nobody can be told.
func (s *endpoint) refuse(a arrival, f flaw) {
	code, isSent, err := decide.Refuse(a.cond, f.isHeader)
	if a.control != "" && err == nil && isSent {
		s.send(s.reply(a, a.cond.Enhanced, code, f.expect, f.found))
	}
}

// isQuestion: the other side asks which number is expected, or wants to begin with any.
func (s *endpoint) isQuestion(a arrival) bool {
	number, ok := a.says.fields[fieldNumber].one()
	return s.other.Sequence && len(a.message.Segs) == 1 && a.control != "" && ok && (number == probeNumber || number == resyncNumber)
}

func (s *endpoint) answerQuestion(a arrival) {
	expect := s.receiver().Tell()
	if a.says.fields[fieldNumber].text == resyncNumber {
		expect = 0
		// A copy of the last one taken finds what it asks for done.
		if a.control != s.tables.Reset {
			s.record(api.Record{Kind: api.RecOpen, Control: a.control})
		}
	}
	s.send(s.reply(a, false, "AA", expect, nil))
}

// receiver judges numbers. Layer 12 takes what tables have for it.
func (s *endpoint) receiver() *seq.Receiver {
	r, _ := seq.NewReceiver(s.tables.Expects, s.tables.Last)
	return r
}

// consider accepts a message, unless something is wrong with it or its control id is kept.
func (s *endpoint) consider(a arrival) {
	f := s.headFlaw(a)
	if !f.is() {
		f = s.bodyFlaw(a)
	}
	if f.is() {
		s.refuse(a, f)
		return
	}
	a.text, _ = tree.Print(numbered(a.message, 0))
	if at := s.keptPlace(a.control); at >= 0 {
		s.again(a, s.tables.In[at])
		return
	}
	if f := s.placeFlaw(a); f.is() {
		s.refuse(a, f)
		return
	}
	s.accept(a)
}

// headFlaw is what makes the header none of this link.
func (s *endpoint) headFlaw(a arrival) flaw {
	_, wrong := s.structure(a.says)
	switch {
	case wrong != 0:
		return flawAt(true, wrong, fieldType)
	case !a.says.says(fieldProcess, s.own.Process):
		return flawAt(true, codeProcess, fieldProcess)
	case !a.says.says(fieldVersion, s.version):
		return flawAt(true, codeVersion, fieldVersion)
	case a.control == "":
		return flawAt(true, codeType, fieldControl)
	case a.wrong != 0:
		return flawAt(true, codeTable, a.wrong)
	}
	return flaw{}
}

// structure is the number of the profile's message that MSH-9 names, or the code that tells why there is none.
func (s *endpoint) structure(h heading) (int, int) {
	var names [3]string
	hasAll := true
	for i := range names {
		name, ok := h.parts[part{fieldType, i + 1}].one()
		names[i], hasAll = name, hasAll && ok
	}
	if which, found := s.profile.Find(names[0], names[1], names[2]); found && hasAll {
		return which, 0
	}
	if slices.ContainsFunc(s.profile.Structs(), func(x api.Struct) bool { return x.Code == names[0] }) {
		return 0, codeEvent
	}
	return 0, codeMessage
}

// bodyFlaw is what is wrong with a message of a right header by itself.
func (s *endpoint) bodyFlaw(a arrival) flaw {
	which, _ := s.structure(a.says)
	if found, err := s.profile.Check(which, a.message); err == nil && len(found) > 0 {
		return flaw{false, noNumber, found}
	}
	// It came without its last CR, and has no room for it.
	if _, err := tree.Print(a.message); err != nil {
		return flawAt(true, codeUnable, fieldWhole)
	}
	return flaw{}
}

// keptPlace is the place of a kept message; -1: there is none.
func (s *endpoint) keptPlace(control string) int {
	return slices.IndexFunc(s.tables.In, func(x api.InEntry) bool { return x.Control == control })
}

// again answers a message whose control id is kept: a copy from there, byte for byte.
func (s *endpoint) again(a arrival, x api.InEntry) {
	if !bytes.Equal(x.Text, a.text) {
		s.refuse(a, flawAt(false, codeTwice, fieldControl))
		return
	}
	s.send(x.Commit)
	s.send(x.Answer)
}

// placeFlaw is why there is no place for a message that is right by itself: its number, or want of room.
func (s *endpoint) placeFlaw(a arrival) flaw {
	if s.other.Sequence {
		n, receiver := a.says.number(), s.receiver()
		if n == 0 {
			return flawAt(false, codeType, fieldNumber)
		}
		if receiver.Judge(n) != api.SeqRight {
			f := flawAt(false, codeUnable, fieldNumber)
			f.expect = receiver.Tell()
			return f
		}
	}
	open := 0
	for _, x := range s.tables.In {
		if isOpen(x) {
			open++
		}
	}
	if open >= api.MaxIn {
		return flawAt(false, codeUnable, fieldWhole)
	}
	return flaw{}
}

// accept keeps a message, with the commit that is sent for it.
func (s *endpoint) accept(a arrival) {
	r := api.Record{Kind: api.RecIn, Control: a.control, Text: a.text, Tick: s.now}
	if s.other.Sequence {
		r.Number = a.says.number()
	}
	_, acts, _ := decide.Take(a.cond)
	if hasAct(acts, api.ActCommit) {
		r.Commit = s.reply(a, a.cond.Enhanced, "CA", noNumber, nil)
	}
	s.record(r)
	s.send(r.Commit)
	s.tell(api.Seen{Kind: api.SeenDeliver, Control: r.Control, Text: r.Text, Number: r.Number})
}

// deliverAgain tells the application of the open messages that a crash has left.
func (s *endpoint) deliverAgain() {
	for _, x := range s.tables.In {
		if isOpen(x) {
			s.tell(api.Seen{Kind: api.SeenDeliver, Control: x.Control, Text: x.Text, Number: x.Number, Again: true})
		}
	}
}

func isOpen(x api.InEntry) bool { return x.Code == "" }

func hasAct(acts []api.Act, kind int) bool {
	return slices.ContainsFunc(acts, func(a api.Act) bool { return a.Kind == kind })
}

func (s *endpoint) verdict(control, code string, found []api.Finding) ([]api.Seen, api.Errno) {
	// All else of it is right, whomever it answers: what layer 10 refuses are the findings.
	trial := s.signed(api.Ack{Marks: s.own.Marks, For: "0"}, code, noNumber, found)
	switch {
	case code != "AA" && code != "AE" && code != "AR", ack.Right(trial) != nil:
		return nil, api.ErrArg
	case !slices.Contains(s.delivered, control):
		return nil, api.ErrSide
	}
	return s.step(func() { s.judge(control, code, found) }), api.OK
}

// judge puts a verdict on a message that was delivered, with the answer that is sent for it.
func (s *endpoint) judge(control, code string, found []api.Finding) {
	x := s.tables.In[s.keptPlace(control)]
	// A text that a side has kept is one that layer 6 reads.
	m, _ := tree.Parse(x.Text)
	a := arrivalOf(m)
	r := api.Record{Kind: api.RecVerdict, Control: control, Code: code}
	_, acts, _ := decide.Judge(a.cond, api.Kept{}, code)
	if hasAct(acts, api.ActAnswer) {
		r.Answer = s.reply(a, a.cond.Enhanced, code, noNumber, found)
	}
	s.record(r)
	s.delivered = slices.DeleteFunc(s.delivered, func(id string) bool { return id == control })
	s.send(r.Answer)
}

// reply is the text of the acknowledgement that goes back to a message. Layer 10 refuses none whose message has a control id.
func (s *endpoint) reply(a arrival, isEnhanced bool, code string, expect int, found []api.Finding) []byte {
	x := s.signed(ack.Answer(a.message.Marks, a.message.Segs[0]), code, expect, found)
	x.Enhanced = isEnhanced
	text, _ := ack.Text(x)
	return text
}

// signed gives an acknowledgement of this side, from one that knows whom it answers.
func (s *endpoint) signed(a api.Ack, code string, expect int, found []api.Finding) api.Ack {
	a.From, a.FromPlace = [3]string{s.own.App}, [3]string{s.own.Facility}
	a.Stamp, a.Process, a.Version = s.stamp(), s.own.Process, s.version
	a.Code, a.Expect, a.Errors = code, expect, found
	// A code that is none of the six is refused for itself.
	if code != "" {
		a.Control = code[:1] + a.For
	}
	return a
}
