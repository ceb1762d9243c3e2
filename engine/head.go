package engine

import (
	"slices"
	"strconv"

	"courier/api"
	"courier/decide"
	"courier/esc"
)

// The fields of an MSH that an engine looks at.
const (
	fieldFirst   = 3 // of those that its list has
	fieldType    = 9
	fieldControl = 10
	fieldProcess = 11
	fieldVersion = 12
	fieldNumber  = 13
	fieldAccept  = 15
	fieldApp     = 16
)

// unlike stands for the condition of a field that has no text: it is none of those that may be.
const unlike = "?"

// head is an MSH in normal form, under its marks. There a list of several always has something that isn't empty behind its first.
type head struct {
	marks api.Marks
	seg   api.Seg
}

// headOf gives the MSH of a message; where nothing was read, one in which all is empty.
func headOf(m api.Message) head {
	h := head{marks: m.Marks}
	if len(m.Segs) > 0 {
		h.seg = m.Segs[0]
	}
	return h
}

func (h head) reps(field int) []api.Rep {
	if at := field - fieldFirst; at < len(h.seg.Fields) {
		return h.seg.Fields[at].Reps
	}
	return nil
}

// comp is the text of a component of a field's first repetition, if it has one.
func (h head) comp(field, number int) (string, bool) {
	reps := h.reps(field)
	if len(reps) == 0 || number > len(reps[0].Comps) {
		return "", true
	}
	switch subs := reps[0].Comps[number-1].Subs; len(subs) {
	case 0:
		return "", true
	case 1:
		text, err := esc.Unescape(h.marks, subs[0])
		return text, err == nil
	}
	return "", false
}

// text is a field's text, if it has one.
func (h head) text(field int) (string, bool) {
	reps := h.reps(field)
	if len(reps) > 1 || len(reps) == 1 && len(reps[0].Comps) > 1 {
		return "", false
	}
	return h.comp(field, 1)
}

// says tells whether the first component of a field is that text.
func (h head) says(field int, text string) bool {
	first, ok := h.comp(field, 1)
	return ok && first == text
}

// control is the control id; empty: there is none.
func (h head) control() string {
	if text, ok := h.text(fieldControl); ok && isControl(text) {
		return text
	}
	return ""
}

// conditions are those of MSH-15 and MSH-16, or else original mode, and the field that is none of the five (0: none).
func (h head) conditions() (api.Conditions, int) {
	c, err := decide.Mode(h.condition(fieldAccept), h.condition(fieldApp))
	return c, placeOf(err)
}

func (h head) condition(field int) string {
	if text, ok := h.text(field); ok {
		return text
	}
	return unlike
}

// number is a message's number; 0: it has none.
func (h head) number() int {
	text, _ := h.text(fieldNumber)
	if n, err := strconv.Atoi(text); err == nil && isNumber(n) && strconv.Itoa(n) == text {
		return n
	}
	return 0
}

// numbered gives the message with that number; with 0 it has none.
func numbered(m api.Message, n int) api.Message {
	var field api.Field
	if n != 0 {
		field = written(m.Marks, strconv.Itoa(n))
	}
	const at = fieldNumber - fieldFirst
	m.Segs = slices.Clone(m.Segs)
	fields := slices.Clone(m.Segs[0].Fields)
	for len(fields) <= at {
		fields = append(fields, api.Field{})
	}
	fields[at] = field
	m.Segs[0].Fields = fields
	return m
}

// written is a field of one repetition: each text is a component.
func written(k api.Marks, texts ...string) api.Field {
	var r api.Rep
	for _, text := range texts {
		// Layer 5 refuses just what is longer than any text of an MSH that an engine writes.
		wire, _ := esc.Escape(k, text)
		r.Comps = append(r.Comps, api.Comp{Subs: []string{wire}})
	}
	return api.Field{Reps: []api.Rep{r}}
}

func isNumber(n int) bool { return n >= 1 && n <= api.MaxNumber }

func isControl(text string) bool {
	if text == "" || len(text) > api.MaxControl {
		return false
	}
	for _, b := range []byte(text) {
		if !isControlByte(b) {
			return false
		}
	}
	return true
}

func isControlByte(b byte) bool {
	return b >= '0' && b <= '9' || b >= 'A' && b <= 'Z' || b >= 'a' && b <= 'z' || b == '.' || b == '-'
}
