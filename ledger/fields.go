package ledger

import "courier/api"

const (
	codeSize = 2
	magic    = "HLG1"
	mostKept = api.MaxIn + api.MaxKeep + 1 // entries of an inbox
)

// way goes from values to bytes, or back: the same parts in the same order.
type way interface {
	pass(parts ...part)
}

// layer goes to bytes.
type layer struct {
	bytes []byte
}

func (l *layer) pass(parts ...part) {
	for _, p := range parts {
		l.bytes = p.lay(l.bytes)
	}
}

func (r *reader) pass(parts ...part) {
	for _, p := range parts {
		p.read(r)
	}
}

func recordBytes(r api.Record) []byte {
	to := &layer{}
	passRecord(to, &r)
	return to.bytes
}

func snapshot(x api.Tables) []byte {
	to := &layer{}
	passTables(to, &x)
	return to.bytes
}

// recordFields stand in the struct's order. Each is asked when its turn comes: what it must be hangs on fields ahead of it.
func recordFields() [10]func(r *api.Record) field {
	return [10]func(r *api.Record) field{
		kindOf, controlOf, textOf, condOf, numberOf, tickOf, stateOf, codeOf, commitOf, answerOf,
	}
}

func passRecord(w way, r *api.Record) {
	for _, of := range recordFields() {
		w.pass(of(r))
	}
}

// wrongField tells the number of the first field, from 1, that is not well or should be zero; 0: there is none.
func wrongField(r api.Record) int {
	for i, of := range recordFields() {
		if !of(&r).isWell() {
			return i + 1
		}
	}
	return 0
}

func kindOf(r *api.Record) field { return number{&r.Kind, 1, api.RecOut, api.RecOpen} }

func controlOf(r *api.Record) field {
	if r.Kind == api.RecNext {
		return none(r.Control == "")
	}
	return controlID(&r.Control)
}

func textOf(r *api.Record) field {
	if r.Kind == api.RecOut || r.Kind == api.RecIn {
		return message(&r.Text)
	}
	return none(len(r.Text) == 0)
}

func condOf(r *api.Record) field {
	if r.Kind == api.RecOut {
		return conditions{&r.Cond}
	}
	return none(r.Cond == api.Conditions{})
}

func numberOf(r *api.Record) field {
	switch r.Kind {
	case api.RecNumber:
		return number{&r.Number, numberSize, 1, api.MaxNumber}
	case api.RecIn, api.RecNext:
		return upTo(&r.Number, api.MaxNumber)
	}
	return none(r.Number == 0)
}

func tickOf(r *api.Record) field {
	if r.Kind == api.RecIn {
		return upTo(&r.Tick, api.MaxTick)
	}
	return none(r.Tick == 0)
}

func stateOf(r *api.Record) field {
	if r.Kind == api.RecFinal {
		return number{&r.State, numberSize, api.WantAnswered, api.WantFailed}
	}
	return none(r.State == 0)
}

func codeOf(r *api.Record) field {
	switch {
	case r.Kind == api.RecVerdict:
		return text[string]{&r.Code, codeSize, codeSize, isVerdict}
	case r.Kind == api.RecFinal && r.State == api.WantAnswered:
		return text[string]{&r.Code, codeSize, codeSize, isCode}
	case r.Kind == api.RecFinal:
		return text[string]{&r.Code, 0, 0, isEmpty}
	}
	return none(r.Code == "")
}

func commitOf(r *api.Record) field {
	if r.Kind == api.RecIn {
		return answer(&r.Commit)
	}
	return none(len(r.Commit) == 0)
}

func answerOf(r *api.Record) field {
	if r.Kind == api.RecVerdict {
		return answer(&r.Answer)
	}
	return none(len(r.Answer) == 0)
}

// passTables leaves to the layers below what tables may be: the bounds here only keep what is read from being something that can't.
func passTables(w way, x *api.Tables) {
	w.pass(
		letters(magic),
		upTo(&x.Next, api.MaxNumber),
		upTo(&x.Expects, api.MaxNumber+1),
		upTo(&x.Last, api.MaxNumber),
		text[string]{&x.Reset, 0, api.MaxControl, isAny[string]},
	)
	x.Out = passList(w, x.Out, api.MaxOut, outParts)
	x.In = passList(w, x.In, mostKept, inParts)
}

// passList passes a list's length, and then its things. One that is read is made when its length is known.
func passList[T any](w way, list []T, most int, parts func(thing *T) []part) []T {
	length := len(list)
	w.pass(upTo(&length, most))
	if len(list) < length {
		list = make([]T, length)
	}
	for i := range list {
		w.pass(parts(&list[i])...)
	}
	return list
}

func outParts(o *api.Out) []part {
	return []part{
		controlID(&o.Control), message(&o.Text), conditions{&o.Cond}, upTo(&o.Number, api.MaxNumber), flag{&o.Noted},
	}
}

func inParts(e *api.InEntry) []part {
	return []part{
		controlID(&e.Control), message(&e.Text), upTo(&e.Number, api.MaxNumber), upTo(&e.Tick, api.MaxTick),
		answer(&e.Commit), text[string]{&e.Code, 0, codeSize, isAny[string]}, answer(&e.Answer),
	}
}

func upTo(n *int, most int) field { return number{n, numberSize, 0, most} }

func controlID(s *string) field { return text[string]{s, 1, api.MaxControl, isControl} }

func message(b *[]byte) field { return text[[]byte]{b, 1, api.MaxMessage, isAny[[]byte]} }

func answer(b *[]byte) field { return text[[]byte]{b, 0, api.MaxAnswer, isAny[[]byte]} }

func isAny[T string | []byte](T) bool { return true }

func isEmpty(s string) bool { return s == "" }

func isControl(s string) bool {
	if !isWithin(len(s), 1, api.MaxControl) {
		return false
	}
	for _, c := range []byte(s) {
		if !isControlByte(c) {
			return false
		}
	}
	return true
}

func isControlByte(c byte) bool {
	return c >= '0' && c <= '9' || c >= 'A' && c <= 'Z' || c >= 'a' && c <= 'z' || c == '.' || c == '-'
}

func isVerdict(code string) bool { return code == "AA" || code == "AE" || code == "AR" }

func isCode(code string) bool { return isVerdict(code) || code == "CA" || code == "CE" || code == "CR" }
