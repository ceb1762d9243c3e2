package engine

import (
	"bytes"
	"slices"

	"courier/api"
	"courier/decide"
	"courier/seq"
	"courier/tree"
)

// HL7's codes of what is wrong with a message.
const (
	codeSegments = 100
	codeType     = 102
	codeTable    = 103
	codeMessage  = 200
	codeEvent    = 201
	codeProcess  = 202
	codeVersion  = 203
	codeTwice    = 205
	codeUnable   = 207
)

// fieldWhole stands where a finding is about a message as a whole.
const fieldWhole = 1

// Whether a message is refused by its header, or behind that.
const (
	byHeader = true
	byRest   = false
)

// arrival is what came in a frame, as far as it was looked at.
type arrival struct {
	part    api.Part
	tables  api.Tables
	message api.Message
	head    head
	control string         // empty: there is none
	cond    api.Conditions // of original mode, where a field is none of the five
	wrong   int            // that field; 0: there is none
	which   int            // of the profile's messages
	text    []byte         // in one form, without MSH-13
	number  int
}

func (a *arrival) read(m api.Message) {
	a.message, a.head = m, headOf(m)
	a.control = a.head.control()
	a.cond, a.wrong = a.head.conditions()
}

// receiver judges numbers. Layer 12 takes what a ledger's tables have for it.
func (a *arrival) receiver() *seq.Receiver {
	r, _ := seq.NewReceiver(a.tables.Expects, a.tables.Last)
	return r
}

// isBroken: it is too long, or no message; its first segment may tell whom to answer all the same.
func (r *responder) isBroken(a *arrival) (bool, error) {
	m, err := tree.Parse(a.part.Text)
	code := codeSegments
	if a.part.Kind == api.PartOver {
		code = codeUnable
	} else if err == nil {
		a.read(m)
		return false, nil
	}
	// Of a text that can't be read so the message is empty, and has no control id.
	m, _ = tree.Head(a.part.Text)
	a.read(m)
	if a.control == "" {
		count(&r.counts.Silent, 1)
		return true, nil
	}
	return r.refuse(a, byHeader, noNumber, finding(code, fieldWhole))
}

// isLink: the other side asks which number is expected, or wants to begin with any.
func (r *responder) isLink(a *arrival) (bool, error) {
	number, _ := a.head.text(fieldNumber)
	isAsking := number == probeNumber || number == resyncNumber
	if !r.other.Sequence || len(a.message.Segs) > 1 || a.control == "" || !isAsking {
		return false, nil
	}
	expect := a.receiver().Tell()
	if number == resyncNumber {
		expect = 0
		// A copy of the last one taken finds what it asks for done.
		if a.control != a.tables.Reset {
			if err := r.write(api.Record{Kind: api.RecOpen, Control: a.control}); err != nil {
				return true, err
			}
		}
	}
	r.send(r.reply(a.head, false, saying{code: appAccept, expect: expect}))
	return true, nil
}

// hasWrongHead: its header is none of this link. Without a control id nobody can be told.
func (r *responder) hasWrongHead(a *arrival) (bool, error) {
	if a.control == "" {
		count(&r.counts.Silent, 1)
		return true, nil
	}
	which, wrong := r.structure(a.head)
	switch {
	case wrong != 0:
		return r.refuse(a, byHeader, noNumber, finding(wrong, fieldType))
	case !a.head.says(fieldProcess, r.own.Process):
		return r.refuse(a, byHeader, noNumber, finding(codeProcess, fieldProcess))
	case !a.head.says(fieldVersion, r.version):
		return r.refuse(a, byHeader, noNumber, finding(codeVersion, fieldVersion))
	case a.wrong != 0:
		return r.refuse(a, byHeader, noNumber, finding(codeTable, a.wrong))
	}
	a.which = which
	return false, nil
}

// structure is the number of the profile's message that MSH-9 names, or the code that tells why there is none.
func (r *responder) structure(h head) (int, int) {
	code, hasCode := h.comp(fieldType, 1)
	event, hasEvent := h.comp(fieldType, 2)
	name, hasName := h.comp(fieldType, 3)
	if which, found := r.profile.Find(code, event, name); found && hasCode && hasEvent && hasName {
		return which, 0
	}
	if slices.ContainsFunc(r.profile.Structs(), func(s api.Struct) bool { return s.Code == code }) {
		return 0, codeEvent
	}
	return 0, codeMessage
}

// hasWrongStructure: its segments and fields are not those of the profile.
func (r *responder) hasWrongStructure(a *arrival) (bool, error) {
	found, err := r.profile.Check(a.which, a.message)
	if err != nil || len(found) == 0 {
		return false, err
	}
	return r.refuse(a, byRest, noNumber, found...)
}

// isTooLong: it came without its last CR, and has no room for it.
func (r *responder) isTooLong(a *arrival) (bool, error) {
	if _, err := tree.Print(a.message); err != nil {
		return r.refuse(a, byHeader, noNumber, finding(codeUnable, fieldWhole))
	}
	// Nothing is refused that has become no longer.
	a.text, _ = tree.Print(numbered(a.message, 0))
	return false, nil
}

// isKnown: its control id is kept. A copy is answered from there, byte for byte.
func (r *responder) isKnown(a *arrival) (bool, error) {
	x, has := kept(a.tables, a.control)
	if !has {
		return false, nil
	}
	if !bytes.Equal(x.Text, a.text) {
		return r.refuse(a, byRest, noNumber, finding(codeTwice, fieldControl))
	}
	count(&r.counts.Again, 1)
	if err := r.sendCommit(x); err != nil {
		return true, err
	}
	return true, r.sendAnswer(x)
}

// isOutOfOrder: with sequencing its number is not the one that is expected.
func (r *responder) isOutOfOrder(a *arrival) (bool, error) {
	if !r.other.Sequence {
		return false, nil
	}
	a.number = a.head.number()
	if a.number == 0 {
		return r.refuse(a, byRest, noNumber, finding(codeType, fieldNumber))
	}
	receiver := a.receiver()
	if receiver.Judge(a.number) != api.SeqRight {
		return r.refuse(a, byRest, receiver.Tell(), finding(codeUnable, fieldNumber))
	}
	return false, nil
}

// isTooMany: the application has not judged what was delivered.
func (r *responder) isTooMany(a *arrival) (bool, error) {
	open := 0
	for _, x := range a.tables.In {
		if isOpen(x) {
			open++
		}
	}
	if open < api.MaxIn {
		return false, nil
	}
	return r.refuse(a, byRest, noNumber, finding(codeUnable, fieldWhole))
}

// isAccepted: nothing is left that could be wrong.
func (r *responder) isAccepted(a *arrival) (bool, error) {
	x := api.InEntry{Control: a.control, Text: a.text, Number: a.number, Tick: r.now}
	return true, r.accept(x, a.head, a.cond)
}

// refuse counts a refusal, and sends it where the message's conditions say so. A frame that was refused is done with.
func (r *responder) refuse(a *arrival, header bool, expect int, found ...api.Finding) (bool, error) {
	count(&r.counts.Refused, 1)
	code, sent, err := decide.Refuse(a.cond, header)
	if err == nil && sent {
		r.send(r.reply(a.head, a.cond.Enhanced, saying{code, expect, found}))
	}
	return true, err
}

func finding(code, field int) api.Finding {
	return api.Finding{Code: code, Seg: "MSH", Occur: 1, Field: field, Rep: 1}
}
