package path

import (
	"strconv"

	"courier/api"
)

const (
	msh      = "MSH"
	nameSize = 3
	ahead    = 2    // MSH-1 and MSH-2 are the marks: they stand in no list
	beyond   = 1000 // greater than any number of a right place
)

func right(p api.Place) bool {
	most := api.MaxFields
	if p.Seg == msh {
		most += ahead
	}
	if p.Seg == msh && p.Occur != 1 || fixed(p) && (p.Rep != 1 || p.Comp != 1 || p.Sub != 1) {
		return false
	}
	return isName(p.Seg) && within(p.Occur, api.MaxSegments) && within(p.Field, most) &&
		within(p.Rep, api.MaxReps) && within(p.Comp, api.MaxComps) && within(p.Sub, api.MaxSubs)
}

func within(number, most int) bool { return 1 <= number && number <= most }

// fixed tells whether a place is that of marks.
func fixed(p api.Place) bool { return p.Seg == msh && p.Field <= ahead }

// inList is the number, from 1 on, of a place's field in its segment's list.
func inList(p api.Place) int {
	if p.Seg == msh {
		return p.Field - ahead
	}
	return p.Field
}

func isName(text string) bool { return len(text) == nameSize && named(text) == nameSize }

// named counts the first bytes of a text that can stand in a segment's name, up to a whole one.
func named(text string) int {
	n := 0
	for n < nameSize && n < len(text) && (isLetter(text[n]) || n > 0 && isDigit(text[n])) {
		n++
	}
	return n
}

func isLetter(b byte) bool { return 'A' <= b && b <= 'Z' }

func isDigit(b byte) bool { return '0' <= b && b <= '9' }

// bracketed leaves a 1 out, as the one form does.
func bracketed(number int) string {
	if number == 1 {
		return ""
	}
	return "[" + strconv.Itoa(number) + "]"
}

// reader reads a place's text from the left, a part at a time. A part that refuses leaves it standing where the fault is.
type reader struct {
	text  string
	at    int
	place api.Place // what is not read yet is 1
}

func (r *reader) seg() bool {
	r.at = named(r.text)
	r.place.Seg = r.text[:r.at]
	return r.at == nameSize
}

func (r *reader) occur() bool {
	return !r.take('[') || r.number(&r.place.Occur) && r.take(']')
}

func (r *reader) field() bool { return r.take('-') && r.number(&r.place.Field) }

func (r *reader) rep() bool { return !r.take('[') || r.number(&r.place.Rep) && r.take(']') }

func (r *reader) comp() bool { return !r.take('.') || r.number(&r.place.Comp) }

// sub never meets a point behind a place without a component: comp has taken that one.
func (r *reader) sub() bool { return !r.take('.') || r.number(&r.place.Sub) }

func (r *reader) end() bool { return r.at == len(r.text) }

// take goes on behind a byte, if that stands here.
func (r *reader) take(b byte) bool {
	if r.end() || r.text[r.at] != b {
		return false
	}
	r.at++
	return true
}

// number reads a number into a part of the place. All its digits are read ahead of judging it; then its fault is where it begins.
func (r *reader) number(part *int) bool {
	begin := r.at
	if !r.atDigit() || r.text[begin] == '0' {
		return false
	}
	for *part = 0; r.atDigit(); r.at++ {
		*part = min(10*(*part)+int(r.text[r.at]-'0'), beyond)
	}
	if !right(r.place) {
		r.at = begin
		return false
	}
	return true
}

func (r *reader) atDigit() bool { return !r.end() && isDigit(r.text[r.at]) }
