package audit

import (
	"slices"
	"strconv"

	"courier/api"
	"courier/decide"
	"courier/ledger"
	"courier/path"
)

// The fields of an MSH that a side looks at.
const (
	fieldFirst   = 3 // of those that its list has
	fieldType    = 9
	fieldControl = 10
	fieldProcess = 11
	fieldVersion = 12
	fieldNumber  = 13
	fieldAccept  = 15
	fieldApp     = 16
)

// unlike stands for the condition of a field that has no text: it is none of those that may be.
const unlike = "?"

// said is what stands in a field or a component: the plain text of what stands first there, and whether anything else is not empty.
type said struct {
	text string
	more bool
}

func (s said) and(text string, isFirst bool) said {
	if isFirst {
		s.text = text
	} else {
		s.more = true
	}
	return s
}

// one is its text, if it has one.
func (s said) one() (string, bool) {
	if s.more {
		return "", false
	}
	return s.text, true
}

// part names a component of a field's first repetition.
type part struct{ field, comp int }

// heading is what an MSH says.
type heading struct {
	fields map[int]said
	parts  map[part]said
}

// headingOf reads the MSH of a message; where nothing was read all is empty.
func headingOf(m api.Message) heading {
	h := heading{map[int]said{}, map[part]said{}}
	if len(m.Segs) == 0 {
		return h
	}
	for p, text := range path.Walk(api.Message{Marks: m.Marks, Segs: m.Segs[:1]}) {
		isFirst := p.Comp == 1 && p.Sub == 1
		h.fields[p.Field] = h.fields[p.Field].and(text, isFirst && p.Rep == 1)
		if p.Rep == 1 {
			at := part{p.Field, p.Comp}
			h.parts[at] = h.parts[at].and(text, p.Sub == 1)
		}
	}
	return h
}

// says tells whether the first component of a field is that text.
func (h heading) says(field int, text string) bool {
	first, ok := h.parts[part{field, 1}].one()
	return ok && first == text
}

// control is the control id; empty: there is none.
func (h heading) control() string {
	if text, ok := h.fields[fieldControl].one(); ok && isControl(text) {
		return text
	}
	return ""
}

// conditions are those of MSH-15 and MSH-16, or else original mode, and the field that is none of the five (0: none).
func (h heading) conditions() (api.Conditions, int) {
	c, err := decide.Mode(h.condition(fieldAccept), h.condition(fieldApp))
	return c, placeOf(err)
}

func (h heading) condition(field int) string {
	if text, ok := h.fields[field].one(); ok {
		return text
	}
	return unlike
}

// number is a message's number; 0: it has none.
func (h heading) number() int {
	text, _ := h.fields[fieldNumber].one()
	if n, err := strconv.Atoi(text); err == nil && isNumber(n) && strconv.Itoa(n) == text {
		return n
	}
	return 0
}

// numbered gives the message with that number; with 0 it has none. No digit is a mark.
func numbered(m api.Message, n int) api.Message {
	var field api.Field
	if n != 0 {
		field.Reps = []api.Rep{{Comps: []api.Comp{{Subs: []string{strconv.Itoa(n)}}}}}
	}
	const at = fieldNumber - fieldFirst
	fields := slices.Clone(m.Segs[0].Fields)
	if missing := at + 1 - len(fields); missing > 0 {
		fields = append(fields, make([]api.Field, missing)...)
	}
	fields[at] = field
	m.Segs = slices.Clone(m.Segs)
	m.Segs[0].Fields = fields
	return m
}

// isControl asks layer 16: its record of a commit is well with a control id alone.
func isControl(text string) bool {
	_, err := ledger.Encode(api.Record{Kind: api.RecCommit, Control: text})
	return err == nil
}

func isNumber(n int) bool { return n >= 1 && n <= api.MaxNumber }
