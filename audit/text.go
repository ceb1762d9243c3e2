package audit

import (
	"strconv"

	"courier/api"
	"courier/ledger"
)

// page is a text that tells states apart: two are the same just if all that was written on their pages is. Each thing is written so that its end is seen.
type page struct{ text []byte }

func (p *page) numbers(list ...int) {
	for _, n := range list {
		p.text = append(strconv.AppendInt(p.text, int64(n), 10), ' ')
	}
}

func (p *page) flags(list ...bool) {
	for _, is := range list {
		p.text = append(strconv.AppendBool(p.text, is), ' ')
	}
}

func (p *page) bytes(b []byte) {
	p.numbers(len(b))
	p.text = append(p.text, b...)
}

func (p *page) strings(list ...string) {
	for _, s := range list {
		p.numbers(len(s))
		p.text = append(p.text, s...)
	}
}

func (p *page) seen(s api.Seen) {
	p.numbers(int(s.Kind), s.Side, s.Number, s.State, int(s.Errno), len(s.Errors))
	p.flags(s.Again)
	p.bytes(s.Text)
	p.strings(s.Control, s.Code)
	for _, f := range s.Errors {
		p.numbers(f.Code, f.Occur, f.Field, f.Rep, f.Comp, f.Sub)
		p.strings(f.Seg)
	}
}

// text tells a side apart from others. Its tables need not stand there twice: they follow from the durable ones and the records.
func (s *endpoint) text() string {
	p := &page{}
	p.numbers(s.side, s.now, s.fuse, s.behind)
	p.flags(s.dead, s.unsure, s.up)
	// Layer 16 takes all tables and records that a side has.
	durable, _ := ledger.Pack(s.terms, s.durable)
	p.bytes(durable)
	p.numbers(len(s.waits))
	for _, r := range s.waits {
		b, _ := ledger.Encode(r)
		p.bytes(b)
	}
	s.mind.write(p)
	return string(p.text)
}

func (m *mind) write(p *page) {
	p.numbers(m.written, m.safe, len(m.held))
	for _, h := range m.held {
		p.numbers(h.After)
		p.seen(h.Seen)
	}
	p.numbers(len(m.sent))
	for _, x := range m.sent {
		p.numbers(x.State, x.Left, x.due)
		p.flags(x.under)
	}
	p.strings(m.link.Control, m.link.text)
	p.numbers(m.link.Next, m.link.Left, m.link.Due)
	p.flags(m.link.Reset)
	p.numbers(len(m.delivered))
	p.strings(m.delivered...)
	p.flags(m.frame.inside, m.frame.ending)
	p.numbers(m.frame.size, m.frame.garbage)
	p.bytes(m.frame.kept)
}

func (f *flight) text() string {
	p := &page{}
	for side, pieces := range f.pieces {
		p.numbers(f.half[side], len(pieces))
		for _, b := range pieces {
			p.bytes(b)
		}
	}
	return string(p.text)
}

// seenList is what was seen in an event.
type seenList []api.Seen

func (l seenList) text() string {
	p := &page{}
	for _, s := range l {
		p.seen(s)
	}
	return string(p.text)
}

// text of a state are the numbers of its parts.
func (x spot) text() string {
	p := &page{}
	p.numbers(x.flight, x.sides[0], x.sides[1])
	return string(p.text)
}

// shelf keeps things that have texts: of the same ones it has one.
type shelf[T interface{ text() string }] struct {
	places map[string]int
	things []T
}

// put tells a thing's place on the shelf.
func (s *shelf[T]) put(t T) int {
	text := t.text()
	at, has := s.places[text]
	if !has {
		if s.places == nil {
			s.places = map[string]int{}
		}
		at = len(s.things)
		s.places[text] = at
		s.things = append(s.things, t)
	}
	return at
}
