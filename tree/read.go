package tree

import (
	"errors"
	"strings"

	"courier/api"
	"courier/esc"
)

const (
	msh      = "MSH"
	nameSize = 3
	headSize = nameSize + 5 // the MSH's name and the marks
)

// refusal is what reading gives up with, from however deep inside.
type refusal struct{ why error }

func giveUp(at int, code api.Errno, under error) {
	panic(refusal{fault(at, code, under)})
}

// reader stands at a place of a text, and goes on to the right.
type reader struct {
	text  string
	at    int
	marks api.Marks
	ends  [levels]byte // between the elements of each level
}

// read gives the message with its empty ends, or gives up.
func read(text string) api.Message {
	marks, err := esc.Read(text)
	if err != nil {
		giveUp(placeOf(err), api.ErrNoMSH, err)
	}
	if !strings.HasPrefix(text, msh) {
		giveUp(0, api.ErrNoMSH, nil)
	}
	// Without the last CR there is one between each two segments, as there is a mark between other things.
	r := &reader{text: strings.TrimSuffix(text, "\r"), marks: marks, ends: between(marks)}
	return api.Message{Marks: marks, Segs: parts(r, segments, r.segment)}
}

// parts reads a list of any level; part reads an element.
func parts[E any](r *reader, level int, part func() E) []E {
	list := []E{part()}
	for r.take(level) {
		if len(list) == most[level] {
			giveUp(r.at, api.ErrMany, nil)
		}
		list = append(list, part())
	}
	return list
}

// take goes on behind what ends an element of the level, if that stands here.
func (r *reader) take(level int) bool {
	if r.at == len(r.text) || r.text[r.at] != r.ends[level] {
		return false
	}
	r.at++
	return true
}

func (r *reader) segment() api.Seg {
	s := api.Seg{Name: r.name()}
	if r.take(fields) {
		s.Fields = parts(r, fields, r.field)
	}
	return s
}

func (r *reader) field() api.Field { return api.Field{Reps: parts(r, reps, r.rep)} }

func (r *reader) rep() api.Rep { return api.Rep{Comps: parts(r, comps, r.comp)} }

func (r *reader) comp() api.Comp { return api.Comp{Subs: parts(r, subs, r.sub)} }

// name goes on behind the name; of the MSH, whose head was read, behind the marks.
func (r *reader) name() string {
	if r.at == 0 {
		r.at = headSize
		return msh
	}
	begin := r.at
	good := named(r.text[begin:])
	if good < nameSize {
		giveUp(begin+good, api.ErrSegName, nil)
	}
	r.at += nameSize
	name := r.text[begin:r.at]
	if name == msh {
		giveUp(begin, api.ErrSecond, nil)
	}
	if r.at < len(r.text) && r.text[r.at] != r.ends[fields] && r.text[r.at] != r.ends[segments] {
		giveUp(r.at, api.ErrSegName, nil)
	}
	return name
}

func (r *reader) sub() string {
	sub := r.text[r.at:]
	if end := strings.IndexAny(sub, string(r.ends[:])); end >= 0 {
		sub = sub[:end]
	}
	if _, err := esc.Split(r.marks, sub); err != nil {
		giveUp(r.at+placeOf(err), api.ErrWire, err)
	}
	r.at += len(sub)
	return sub
}

// placeOf is the place that layer 5 tells.
func placeOf(err error) int {
	var f *api.Fault
	if errors.As(err, &f) {
		return f.At
	}
	return 0
}

// named counts the first bytes of a text that can stand in a name, up to a whole one.
func named(text string) int {
	n := 0
	for n < nameSize && n < len(text) && (isLetter(text[n]) || n > 0 && isDigit(text[n])) {
		n++
	}
	return n
}

// mayStand tells whether a segment with that number may have the name.
func mayStand(name string, number int) bool {
	return len(name) == nameSize && named(name) == nameSize && (name == msh) == (number == 0)
}

func isLetter(b byte) bool { return 'A' <= b && b <= 'Z' }

func isDigit(b byte) bool { return '0' <= b && b <= '9' }
