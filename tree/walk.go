package tree

import (
	"slices"

	"courier/api"
)

// The levels of a message's lists, from the outermost in.
const (
	segments = iota
	fields
	reps
	comps
	subs
	levels
)

// most is how many elements a list of each level may have.
var most = [levels]int{api.MaxSegments, api.MaxFields, api.MaxReps, api.MaxComps, api.MaxSubs}

// between is what stands between two elements of each level's list.
func between(k api.Marks) [levels]byte {
	return [levels]byte{'\r', k.Field, k.Rep, k.Comp, k.Sub}
}

// walk is what is done on the way over a message: list at each list, ahead of its elements, sub at each sub. The way ends where one of them answers false. The place that they are told has one number for each level gone down; it is theirs for the one call.
type walk struct {
	list func(at []int, length int) bool
	sub  func(at []int, sub string) bool
}

// over goes over a list of any level; inside goes on with an element.
func over[E any](w walk, at []int, list []E, inside func(at []int, e E) bool) bool {
	if !w.list(at, len(list)) {
		return false
	}
	at = append(at, 0)
	for i, e := range list {
		at[len(at)-1] = i
		if !inside(at, e) {
			return false
		}
	}
	return true
}

func (w walk) message(m api.Message) bool {
	return over(w, make([]int, 0, levels), m.Segs, w.seg)
}

func (w walk) seg(at []int, s api.Seg) bool { return over(w, at, s.Fields, w.field) }

func (w walk) field(at []int, f api.Field) bool { return over(w, at, f.Reps, w.rep) }

func (w walk) rep(at []int, r api.Rep) bool { return over(w, at, r.Comps, w.comp) }

func (w walk) comp(at []int, c api.Comp) bool { return over(w, at, c.Subs, w.sub) }

// rebuilt gives a new message of what turn makes of each sub that is not empty. Its lists grow as far as such a one stands, so none has an empty end. It gives up where turn does.
func rebuilt(m api.Message, turn func(sub string) (string, error)) (api.Message, error) {
	var refused error
	made := api.Message{Marks: m.Marks, Segs: make([]api.Seg, len(m.Segs))}
	build := walk{
		list: func(at []int, length int) bool {
			if len(at) == fields {
				made.Segs[at[0]].Name = m.Segs[at[0]].Name
			}
			return true
		},
		sub: func(at []int, sub string) bool {
			if sub == "" {
				return true
			}
			turned, err := turn(sub)
			if err != nil {
				refused = err
				return false
			}
			put(&made.Segs[at[0]], at, turned)
			return true
		},
	}
	if !build.message(m) {
		return api.Message{}, refused
	}
	return made, nil
}

func put(s *api.Seg, at []int, sub string) {
	f := element(&s.Fields, at[fields])
	r := element(&f.Reps, at[reps])
	c := element(&r.Comps, at[comps])
	*element(&c.Subs, at[subs]) = sub
}

// element gives the one with that number, and has the list grow by empty ones where it ends ahead of it.
func element[E any](list *[]E, number int) *E {
	for len(*list) <= number {
		var empty E
		*list = append(*list, empty)
	}
	return &(*list)[number]
}

// textOf writes a normal message. It stops where the text is longer than may be.
func textOf(m api.Message) []byte {
	var text []byte
	marks := between(m.Marks)
	begin := func(at []int) {
		level := len(at) - 1
		if level == fields || at[level] > 0 {
			text = append(text, marks[level])
		}
	}
	write := walk{
		list: func(at []int, length int) bool {
			if len(at) > 0 {
				begin(at)
			}
			if len(at) == fields {
				text = append(text, headOf(m, at[0])...)
			}
			return len(text) <= api.MaxMessage
		},
		sub: func(at []int, sub string) bool {
			begin(at)
			text = append(text, sub...)
			return len(text) <= api.MaxMessage
		},
	}
	write.message(m)
	return append(text, '\r')
}

// headOf is what stands ahead of a segment's fields.
func headOf(m api.Message, number int) []byte {
	head := []byte(m.Segs[number].Name)
	if number == 0 {
		k := m.Marks
		head = append(head, k.Field, k.Comp, k.Rep, k.Esc, k.Sub)
	}
	return head
}

// copyOf keeps empty ends, as Normal does not.
func copyOf(s api.Seg) api.Seg {
	return api.Seg{Name: s.Name, Fields: each(s.Fields, func(f api.Field) api.Field {
		return api.Field{Reps: each(f.Reps, func(r api.Rep) api.Rep {
			return api.Rep{Comps: each(r.Comps, func(c api.Comp) api.Comp {
				return api.Comp{Subs: slices.Clone(c.Subs)}
			})}
		})}
	})}
}

// each gives a new list of what do makes of each element.
func each[E any](list []E, do func(e E) E) []E {
	made := make([]E, len(list))
	for i, e := range list {
		made[i] = do(e)
	}
	return made
}

// sameSeg compares segments that are normal.
func sameSeg(a, b api.Seg) bool {
	return a.Name == b.Name && slices.EqualFunc(a.Fields, b.Fields, func(a, b api.Field) bool {
		return slices.EqualFunc(a.Reps, b.Reps, func(a, b api.Rep) bool {
			return slices.EqualFunc(a.Comps, b.Comps, func(a, b api.Comp) bool {
				return slices.Equal(a.Subs, b.Subs)
			})
		})
	})
}
