package world

import (
	"bytes"
	"slices"
	"strings"

	"courier/api"
)

// maxErrno is the greatest number of an error.
const maxErrno = 999

// seen has the places of each kind of thing that is seen as methods.
type seen api.Seen

func seenForms() []form[api.SeenKind, seen] {
	return []form[api.SeenKind, seen]{
		{api.SeenOut, "out", (*seen).out},
		{api.SeenDeliver, "deliver", (*seen).deliver},
		{api.SeenAnswer, "answer", (*seen).answer},
		{api.SeenDown, "down", (*seen).side},
		{api.SeenUp, "up", (*seen).side},
		{api.SeenRefused, "refused", (*seen).refused},
		{api.SeenLost, "lost", (*seen).side},
	}
}

func (s *seen) side(p pen) bool { return p.number(&s.Side, 0, 1) }

func (s *seen) out(p pen) bool { return s.side(p) && p.bytes(&s.Text) }

func (s *seen) deliver(p pen) bool {
	copies := 0
	if s.Again {
		copies = 1
	}
	ok := s.side(p) && p.word(&s.Control) && p.number(&s.Number, 0, api.MaxNumber) &&
		p.choice(&copies, "new", "again") && p.bytes(&s.Text)
	s.Again = copies == 1
	return ok
}

func (s *seen) answer(p pen) bool {
	state := s.State - api.StateAnswered
	ok := s.side(p) && p.word(&s.Control) && p.choice(&state, "answered", "closed", "failed") &&
		p.option(&s.Code) && p.findings(&s.Errors)
	s.State = state + api.StateAnswered
	return ok
}

func (s *seen) refused(p pen) bool {
	code := int(s.Errno)
	ok := s.side(p) && p.number(&code, 1, maxErrno)
	s.Errno = api.Errno(code)
	return ok
}

// readSeen reads a report's line: the event's number, and what was seen in it.
func readSeen(text string) (int, api.Seen, bool) {
	var number int
	r := &reader{rest: text}
	if !r.number(&number, 0, api.MaxLines) {
		return 0, api.Seen{}, false
	}
	kind, made, ok := readAs(r, seenForms())
	made.Kind = kind
	return number, api.Seen(made), ok
}

// seenLine writes the line that tells a thing that was seen, as eventLine does.
func seenLine(number int, s api.Seen) (string, bool) {
	var w writer
	x := seen(s)
	w.number(&number, 0, api.MaxLines)
	if !writeAs(&w, s.Kind, &x, seenForms()) {
		return "", false
	}
	text := line(w.words...)
	at, back, ok := readSeen(strings.TrimSuffix(text, "\n"))
	return text, ok && at == number && sameSeen(s, back)
}

func sameSeen(a, b api.Seen) bool {
	return a.Kind == b.Kind && a.Side == b.Side && bytes.Equal(a.Text, b.Text) &&
		a.Control == b.Control && a.Number == b.Number && a.Again == b.Again &&
		a.State == b.State && a.Code == b.Code && slices.Equal(a.Errors, b.Errors) &&
		a.Errno == b.Errno
}
