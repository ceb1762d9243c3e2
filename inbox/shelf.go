package inbox

import (
	"slices"

	"courier/api"
)

// shelf holds the kept entries in order of acceptance.
type shelf struct {
	keep   int
	room   int
	list   []api.InEntry
	places map[string]int // where in the list a control id stands
	open   int
}

func newShelf(keep, room int) *shelf {
	return &shelf{keep: keep, room: room, places: map[string]int{}}
}

// refuse tells why an entry can't stand behind the others; OK: it can.
func (s *shelf) refuse(e api.InEntry) api.Errno {
	last, _ := s.last()
	_, has := s.places[e.Control]
	switch {
	case !mayBe(e) || e.Tick < last.Tick:
		return api.ErrEntry
	case has:
		return api.ErrTwice
	case !isDecided(e) && s.open == s.room:
		return api.ErrFull
	}
	return api.OK
}

func (s *shelf) last() (api.InEntry, bool) {
	if len(s.list) == 0 {
		return api.InEntry{}, false
	}
	return s.list[len(s.list)-1], true
}

// put lets an entry stand behind the others.
func (s *shelf) put(e api.InEntry) {
	s.places[e.Control] = len(s.list)
	s.list = append(s.list, e)
	if !isDecided(e) {
		s.open++
	}
}

func (s *shelf) decide(at int, code string, answer []byte) {
	s.list[at].Code, s.list[at].Answer = code, answer
	s.open--
}

// hasTooMany: behind the decided entry that was accepted first stand more decided ones than are kept.
func (s *shelf) hasTooMany() bool { return len(s.list)-s.open > s.keep+1 }

func (s *shelf) firstDecided() int { return slices.IndexFunc(s.list, isDecided) }

// shed lets the decided entry go that need not be kept any more, and tells who went.
func (s *shelf) shed() []string {
	if !s.hasTooMany() {
		return nil
	}
	at := s.firstDecided()
	control := s.list[at].Control
	s.remove(at)
	return []string{control}
}

func (s *shelf) remove(at int) {
	delete(s.places, s.list[at].Control)
	s.list = slices.Delete(s.list, at, at+1)
	for i := at; i < len(s.list); i++ {
		s.places[s.list[i].Control] = i
	}
}
