package setup

import (
	"slices"
	"strconv"
	"strings"

	"courier/api"
	"courier/esc"
	"courier/stamp"
	"courier/types"
)

// row is a line that says one field.
type row struct {
	name string // the line's first word
	at   int    // the number of its field within the head or the side; 0 of one that is always right
	must bool   // it must stand
	field
}

// field is a field of a setup at its place: the line's second word.
type field interface {
	read(w word) bool // takes it from a word that says such a field
	isRight() bool
	written() string // as the one form has it
}

// headRows are the rows ahead of the sides, in the order of the one form.
func headRows(s *api.Setup) []row {
	return []row{
		{"start", 1, true, text{&s.Start, isStart}},
		{"version", 2, true, text{&s.Version, isValueOf(104)}},
	}
}

// sideRows are the rows of a side, in the order of the one form.
func sideRows(s *api.Side) []row {
	return []row{
		{"app", 1, true, text{&s.App, isApp}},
		{"facility", 2, true, text{&s.Facility, isFacility}},
		{"marks", 3, false, marks{&s.Marks}},
		{"process", 4, true, text{&s.Process, isValueOf(103)}},
		{"sequence", 0, true, sequence{&s.Sequence}},
		{"every", 5, true, number{&s.Every, 1, api.MaxEvery}},
		{"tries", 6, true, number{&s.Tries, 0, api.MaxTries}},
		{"keep", 7, true, number{&s.Keep, 1, api.MaxKeep}},
		{"compact", 8, true, number{&s.Compact, 1, api.MaxCompact}},
	}
}

// text is a text that is such a one.
type text struct {
	value *string
	is    func(text string) bool
}

func (t text) read(w word) bool {
	*t.value = w.text
	return t.isRight()
}

func (t text) isRight() bool { return t.is(*t.value) }

// written: of all texts that are right just the empty one is no word of the first kind.
func (t text) written() string {
	if *t.value == "" {
		return quoted("")
	}
	return *t.value
}

func isStart(text string) bool {
	s, err := stamp.Parse(text)
	return err == nil && s.Level == api.StampSecond && !s.Zoned
}

// isApp: layer 8 takes the null, two quotation marks, for every kind.
func isApp(text string) bool { return text != `""` && types.Text("IS", text) == nil }

func isFacility(text string) bool { return text == "" || isApp(text) }

func isValueOf(table int) func(text string) bool {
	return func(text string) bool {
		values, _ := types.Table(table)
		return slices.Contains(values, text)
	}
}

// marks are five marks.
type marks struct {
	value *api.Marks
}

func (m marks) read(w word) bool {
	five := w.text
	if len(five) != 5 {
		return false
	}
	*m.value = api.Marks{Field: five[0], Comp: five[1], Rep: five[2], Esc: five[3], Sub: five[4]}
	return m.isRight()
}

func (m marks) isRight() bool { return esc.Valid(*m.value) == nil }

func (m marks) written() string {
	v := m.value
	return quoted(string([]byte{v.Field, v.Comp, v.Rep, v.Esc, v.Sub}))
}

func quoted(text string) string {
	return `"` + strings.ReplaceAll(strings.ReplaceAll(text, `\`, `\\`), `"`, `\"`) + `"`
}

// sequence is on or off.
type sequence struct {
	value *bool
}

func (s sequence) read(w word) bool {
	*s.value = w.text == "on"
	return w.text == "on" || w.text == "off"
}

func (s sequence) isRight() bool { return true }

func (s sequence) written() string {
	if *s.value {
		return "on"
	}
	return "off"
}

// number is a number within its bounds.
type number struct {
	value       *int
	least, most int
}

func (n number) read(w word) bool {
	value, err := strconv.Atoi(w.text)
	*n.value = value
	return !w.quoted && err == nil && strconv.Itoa(value) == w.text && n.isRight()
}

func (n number) isRight() bool { return n.least <= *n.value && *n.value <= n.most }

func (n number) written() string { return strconv.Itoa(*n.value) }
