package ack

import (
	"strconv"

	"courier/api"
	"courier/esc"
	"courier/tree"
	"courier/types"
)

// The numbers of the first field in the list of an MSH, and of any other segment.
const (
	firstOfHead = 3
	firstOfRest = 1
)

// reader reads a segment in normal form. There a list of several always has something that isn't empty behind its first.
type reader struct {
	marks api.Marks
	seg   api.Seg
	first int // the number of its list's first field
}

// first reads the first segment of a name, which the message has.
func first(m api.Message, name string) reader {
	r := reader{marks: m.Marks, first: firstOfRest}
	if name == msh {
		r.first = firstOfHead
	}
	for _, s := range tree.Segments(m, name) {
		r.seg = s
		break
	}
	return r
}

// reps are a field's repetitions.
func (r reader) reps(field int) []api.Rep {
	if i := field - r.first; i < len(r.seg.Fields) {
		return r.seg.Fields[i].Reps
	}
	return nil
}

// comps are the components of a field's first repetition.
func (r reader) comps(field int) []api.Comp {
	if reps := r.reps(field); len(reps) > 0 {
		return reps[0].Comps
	}
	return nil
}

// narrow tells whether a field is empty, or one repetition of at most so many components.
func (r reader) narrow(field, most int) bool {
	return len(r.reps(field)) <= 1 && len(r.comps(field)) <= most
}

// comp is the plain text of a component of a field's first repetition. It has none where it is more than one subcomponent, or one that layer 5 refuses.
func (r reader) comp(field, number int) (string, bool) {
	comps := r.comps(field)
	if number > len(comps) || len(comps[number-1].Subs) == 0 {
		return "", true
	}
	subs := comps[number-1].Subs
	if len(subs) > 1 {
		return "", false
	}
	text, err := esc.Unescape(r.marks, subs[0])
	return text, err == nil
}

// text is a field's text, if it has one.
func (r reader) text(field int) (string, bool) {
	if !r.narrow(field, 1) {
		return "", false
	}
	return r.comp(field, 1)
}

// when is a field's text where that is right, else nothing.
func (r reader) when(field int, right func(text string) bool) string {
	if text, ok := r.text(field); ok && right(text) {
		return text
	}
	return ""
}

func (r reader) event() string {
	if text, ok := r.comp(9, 2); ok && isEvent(text) {
		return text
	}
	return ""
}

// hd reads an HD. Layer 8 takes not every escape in one, so it is shown the plain texts written anew.
func (r reader) hd(field int) [3]string {
	if !r.narrow(field, 3) {
		return [3]string{}
	}
	var anew api.Rep
	for i := range r.comps(field) {
		text, ok := r.comp(field, i+1)
		wire, err := esc.Escape(r.marks, text)
		if !ok || err != nil {
			return [3]string{}
		}
		anew.Comps = append(anew.Comps, api.Comp{Subs: []string{wire}})
	}
	v, err := types.View[[3]string](r.marks, "HD", anew)
	if err != nil || !isNarrow(v) {
		return [3]string{}
	}
	return v
}

// readAnswer reads an MSA; what of it can't be read is left as it isn't right.
func readAnswer(a *api.Ack, r reader) {
	a.Code = r.when(1, isCode)
	a.For = r.when(2, isFor)
	a.Expect = r.expect()
}

func (r reader) expect() int {
	text, ok := r.text(4)
	if ok && text == "" {
		return noNumber
	}
	if n, is := decimal(text); ok && is {
		return n
	}
	return noNumber - 1
}

func readHead(a *api.Ack, r reader) {
	a.From = r.hd(3)
	a.FromPlace = r.hd(4)
	a.To = r.hd(5)
	a.ToPlace = r.hd(6)
	a.Stamp = r.when(7, isSecond)
	a.Event = r.event()
	a.Control = r.when(10, isOwn)
	a.Process = r.when(11, isProcess)
	a.Version = r.when(12, isVersion)
	a.Enhanced = len(r.reps(15)) > 0 || len(r.reps(16)) > 0
}

// readReports reads the ERRs: the findings that are right, as many of them as may be.
func readReports(m api.Message) []api.Finding {
	var found []api.Finding
	for _, s := range tree.Segments(m, errs) {
		r := reader{m.Marks, s, firstOfRest}
		if f := r.finding(); isFinding(f) && len(found) < api.MaxErrors {
			found = append(found, f)
		}
	}
	return found
}

// finding reads an ERR. Where a part of it can't be read it is the zero Finding, which isn't right.
func (r reader) finding() api.Finding {
	text, _ := r.comp(3, 1)
	code, isNumber := decimal(text)
	seg, isText := r.comp(2, 1)
	var n numbers
	if !isNumber || !isText || !r.narrow(2, 1+len(n)) {
		return api.Finding{}
	}
	for i := range n {
		text, ok := r.comp(2, i+2)
		if ok && text != "" {
			n[i], ok = decimal(text)
		}
		if !ok {
			return api.Finding{}
		}
	}
	return findingOf(code, seg, n)
}

// decimal reads a number from 0 on that is written as numbers are written here. How great it may be is for the rules of what it becomes.
func decimal(text string) (int, bool) {
	n, err := strconv.Atoi(text)
	return n, err == nil && n >= 0 && strconv.Itoa(n) == text
}
