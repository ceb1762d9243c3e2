package audit

import (
	"slices"

	"courier/api"
	"courier/link"
)

// flight is what is under way. One that stands in a Pair is never changed.
type flight struct {
	pieces [2][][]byte // what is left of each
	half   [2]int      // the place of the broken one; -1: none
}

// flightOf tells what a link has.
func flightOf(l *link.Link) *flight {
	f := &flight{}
	for side := range f.pieces {
		f.pieces[side], f.half[side] = l.Flight(side), l.Half(side)
	}
	return f
}

// laid gives a new link that has this under way. What such a link has had it takes again; a broken piece has room for the byte that is missing of it.
func (f *flight) laid() *link.Link {
	l := link.New()
	for side, pieces := range f.pieces {
		for at, p := range pieces {
			if at != f.half[side] {
				_ = l.Send(side, p)
				continue
			}
			_ = l.Send(side, slices.Concat([]byte{0}, p))
			_, _ = l.Carry(side, at, 1)
		}
	}
	return l
}

// with puts what was let out under way, and tells what is seen of that: a frame that finds no room is lost.
func (f *flight) with(seen []api.Seen) (*flight, []api.Seen) {
	isOut := func(s api.Seen) bool { return s.Kind == api.SeenOut }
	if !slices.ContainsFunc(seen, isOut) {
		return f, seen
	}
	l := f.laid()
	var told []api.Seen
	for _, s := range seen {
		told = append(told, s)
		if isOut(s) && l.Send(s.Side, s.Text) != nil {
			told = append(told, api.Seen{Kind: api.SeenLost, Side: s.Side})
		}
	}
	return flightOf(l), told
}
