package stamp

import "courier/api"

// reader goes through a text from the left. Behind its first fault it reads nothing more, so that its callers need not ask after each step.
type reader struct {
	text string
	at   int
	err  error
}

// date reads a year and, as far as digits follow, a month and a day.
func (r *reader) date() api.Stamp {
	s := api.Stamp{Level: api.StampYear, Year: r.number(4, 1, maxYear)}
	if !r.digitAhead() {
		return s
	}
	s.Level, s.Month = api.StampMonth, r.number(2, 1, 12)
	if !r.digitAhead() {
		return s
	}
	s.Level, s.Day = api.StampDay, r.number(2, 1, daysIn(s.Year, s.Month))
	return s
}

// clock reads an hour and, as far as they follow, a minute, a second and its part.
func (r *reader) clock(s *api.Stamp) {
	s.Level, s.Hour = api.StampHour, r.number(2, 0, 23)
	if !r.digitAhead() {
		return
	}
	s.Level, s.Minute = api.StampMinute, r.number(2, 0, 59)
	if !r.digitAhead() {
		return
	}
	s.Level, s.Second = api.StampSecond, r.number(2, 0, 59)
	if r.ahead() != '.' {
		return
	}
	r.at++
	s.Level, s.Part, s.Digits = api.StampPart, r.digit(), 1
	for s.Digits < maxDigits && r.digitAhead() {
		s.Part = s.Part*10 + r.digit()
		s.Digits++
	}
}

// zone reads a zone, if a sign stands ahead.
func (r *reader) zone(s *api.Stamp) {
	sign, first := r.ahead(), r.at
	if sign != '+' && sign != '-' {
		return
	}
	r.at++
	n := r.digits(4)
	if n > 1400 || n%100 > 59 || sign == '-' && n == 0 {
		r.refuse(first)
	}
	s.Zoned, s.Zone = true, n/100*60+n%100
	if sign == '-' {
		s.Zone = -s.Zone
	}
}

// end tells the first fault; what is left of the text is one too.
func (r *reader) end() error {
	if r.at < len(r.text) {
		r.refuse(r.at)
	}
	return r.err
}

func (r *reader) number(width, low, high int) int {
	first := r.at
	n := r.digits(width)
	if n < low || n > high {
		r.refuse(first)
	}
	return n
}

func (r *reader) digits(width int) int {
	n := 0
	for range width {
		n = n*10 + r.digit()
	}
	return n
}

// digit reads one digit that must stand here.
func (r *reader) digit() int {
	if !r.digitAhead() {
		r.refuse(r.at)
		return 0
	}
	d := int(r.text[r.at] - '0')
	r.at++
	return d
}

func (r *reader) digitAhead() bool {
	c := r.ahead()
	return '0' <= c && c <= '9'
}

// ahead tells the next byte, or 0 where none is to be read: a byte 0 may stand nowhere, so that the two need not be told apart.
func (r *reader) ahead() byte {
	if r.err != nil || r.at >= len(r.text) {
		return 0
	}
	return r.text[r.at]
}

// refuse keeps the first fault alone.
func (r *reader) refuse(at int) {
	if r.err == nil {
		r.err = fault(at, api.ErrForm)
	}
}
