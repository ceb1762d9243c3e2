package path

import (
	"iter"

	"courier/api"
	"courier/esc"
	"courier/tree"
)

// none is the number of a segment that is not there.
const none = -1

func valid(m api.Message) error {
	if _, err := tree.Valid(m); err != nil {
		return fault(0, api.ErrForm, err)
	}
	return nil
}

// look asks what is asked of each message and place, and gives the number of the place's segment.
func look(m api.Message, p api.Place) (int, error) {
	if !right(p) {
		return none, fault(0, api.ErrPlace, nil)
	}
	if err := valid(m); err != nil {
		return none, err
	}
	return find(m, p.Seg, p.Occur), nil
}

func find(m api.Message, name string, occur int) int {
	for i, s := range m.Segs {
		if s.Name == name {
			occur--
		}
		if occur == 0 {
			return i
		}
	}
	return none
}

// told is what stands at a place; of a subcomponent what say makes of its wire text.
func told(m api.Message, p api.Place, say func(wire string) string) (string, bool, error) {
	number, err := look(m, p)
	if err != nil || number == none {
		return "", false, err
	}
	if fixed(p) {
		return marksAt(m.Marks, p.Field), true, nil
	}
	s := m.Segs[number]
	return say(*down(&s, p)), true, nil
}

func marksAt(k api.Marks, field int) string {
	if field == 1 {
		return string([]byte{k.Field})
	}
	return string([]byte{k.Comp, k.Rep, k.Esc, k.Sub})
}

// plain is the plain text of a sub of a message that may be: layer 5 takes it.
func plain(k api.Marks, wire string) string {
	text, _ := esc.Unescape(k, wire)
	return text
}

// down gives the subcomponent of a place of a segment. The lists on the way to it are new ones: those that the segment came with stay as they are.
func down(s *api.Seg, p api.Place) *string {
	f := element(&s.Fields, inList(p))
	r := element(&f.Reps, p.Rep)
	c := element(&r.Comps, p.Comp)
	return element(&c.Subs, p.Sub)
}

// element gives the one with that number, from 1 on, of a new list in the old one's place: it has grown by empty ones where the old one ended ahead of it.
func element[E any](list *[]E, number int) *E {
	grown := make([]E, max(len(*list), number))
	copy(grown, *list)
	*list = grown
	return &grown[number-1]
}

// standing goes over the subcomponents of a segment that are not empty, with their places and wire texts.
func standing(s api.Seg, occur int) iter.Seq2[api.Place, string] {
	first := 1
	if s.Name == msh {
		first += ahead
	}
	return func(yield func(api.Place, string) bool) {
		for f, field := range s.Fields {
			for r, rep := range field.Reps {
				for c, comp := range rep.Comps {
					for i, sub := range comp.Subs {
						p := api.Place{Seg: s.Name, Occur: occur, Field: first + f, Rep: 1 + r, Comp: 1 + c, Sub: 1 + i}
						if sub != "" && !yield(p, sub) {
							return
						}
					}
				}
			}
		}
	}
}
