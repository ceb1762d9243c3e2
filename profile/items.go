package profile

// place is an item's number within its message, in the order of the text.
type place int

// places is a set of them.
type places map[place]struct{}

func (s places) put(at place) { s[at] = struct{}{} }

func (s places) has(at place) bool {
	_, ok := s[at]
	return ok
}

// item is what a group is made of: its words, its place, whether it may be empty. It reads a name, with which it may begin if it is open.
type item interface {
	text() string
	at() place
	empty() bool
	read(s *step, open bool)
}

// step is the reading of one name: the items that may have ended ahead of it, and those that may end with it. The items are gone through once, in the order of their places, so that a step grows with their number alone.
type step struct {
	name  string
	ended places
	ends  places
}

// group is items that follow each other.
type group []item

func (g group) text() string {
	var list []string
	for _, it := range g {
		list = append(list, it.text())
	}
	return spaced(list...)
}

func (g group) empty() bool {
	for _, it := range g {
		if !it.empty() {
			return false
		}
	}
	return true
}

// read goes one name on, and tells whether the group may end with it.
func (g group) read(s *step, open bool) bool {
	ends := false
	for _, it := range g {
		it.read(s, open)
		open = s.ended.has(it.at()) || open && it.empty()
		ends = s.ends.has(it.at()) || ends && it.empty()
	}
	return ends
}

// fits reads names one by one. Every item has a word, so that names which some item can end with begin one of the group's.
func (g group) fits(names []string) (int, bool) {
	s := &step{ended: places{}, ends: places{}}
	begun, ends := false, false
	for i, name := range names {
		if isLocal(name) {
			continue
		}
		s.name = name
		ends = g.read(s, !begun)
		if len(s.ends) == 0 {
			return i, false
		}
		begun = true
		s.ended, s.ends = s.ends, s.ended
		clear(s.ends)
	}
	return len(names), ends
}

func (p place) at() place { return p }

// single is a segment.
type single struct {
	place
	name string
}

func (i *single) text() string { return i.name }

func (i *single) empty() bool { return false }

func (i *single) read(s *step, open bool) {
	if open && i.name == s.name {
		s.ends.put(i.at())
	}
}

// option is a group that may be left out.
type option struct {
	place
	items group
}

func (i *option) text() string { return spaced("[", i.items.text(), "]") }

func (i *option) empty() bool { return true }

func (i *option) read(s *step, open bool) {
	if i.items.read(s, open) {
		s.ends.put(i.at())
	}
}

// repeat is a group once or more. The group is none that may be empty.
type repeat struct {
	place
	items group
}

func (i *repeat) text() string { return spaced("{", i.items.text(), "}") }

func (i *repeat) empty() bool { return false }

func (i *repeat) read(s *step, open bool) {
	if i.items.read(s, open || s.ended.has(i.at())) {
		s.ends.put(i.at())
	}
}

// choice is one of several groups.
type choice struct {
	place
	groups []group
	void   bool // whether one of them may be empty
}

func (i *choice) text() string {
	var list []string
	for n, g := range i.groups {
		if n > 0 {
			list = append(list, "|")
		}
		list = append(list, g.text())
	}
	return spaced("<", spaced(list...), ">")
}

func (i *choice) empty() bool { return i.void }

func (i *choice) read(s *step, open bool) {
	for _, g := range i.groups {
		if g.read(s, open) {
			s.ends.put(i.at())
		}
	}
}
