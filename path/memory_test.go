package path

import (
	"math"
	"reflect"
	"slices"
	"testing"

	"courier/api"
	"courier/tree"
)

// P712, and what DOC.md says of memory.

func over[E any](list []E, with E) {
	list = list[:cap(list)]
	for i := range list {
		list[i] = with
	}
}

// scribble writes over all of a message, the room behind its lists too.
func scribble(m api.Message) {
	scribbled := api.Field{Reps: []api.Rep{{Comps: []api.Comp{{Subs: []string{"scribbled"}}}}}}
	for _, s := range m.Segs {
		for _, f := range s.Fields {
			for _, r := range f.Reps {
				for _, c := range r.Comps {
					over(c.Subs, "scribbled")
				}
				over(r.Comps, api.Comp{Subs: []string{"scribbled"}})
			}
			over(f.Reps, api.Rep{})
		}
		over(s.Fields, scribbled)
	}
	over(m.Segs, api.Seg{Name: "XXX", Fields: []api.Field{scribbled}})
}

func room[E any](list []E, behind E) []E {
	wide := append(slices.Clone(list), slices.Repeat([]E{behind}, 4)...)
	return wide[:len(list)]
}

// roomy gives a copy of a message in which each list has room behind its end, with something in it.
func roomy(m api.Message) api.Message {
	n := api.Message{Marks: m.Marks}
	field := api.Field{Reps: []api.Rep{{Comps: []api.Comp{{Subs: []string{"room"}}}}}}
	for _, s := range m.Segs {
		seg := api.Seg{Name: s.Name}
		for _, f := range s.Fields {
			var fl api.Field
			for _, r := range f.Reps {
				var rp api.Rep
				for _, c := range r.Comps {
					rp.Comps = append(rp.Comps, api.Comp{Subs: room(c.Subs, "room")})
				}
				fl.Reps = append(fl.Reps, api.Rep{Comps: room(rp.Comps, api.Comp{Subs: []string{"room"}})})
			}
			seg.Fields = append(seg.Fields, api.Field{Reps: room(fl.Reps, api.Rep{Comps: []api.Comp{{Subs: []string{"room"}}}})})
		}
		seg.Fields = room(seg.Fields, field)
		n.Segs = append(n.Segs, seg)
	}
	n.Segs = room(n.Segs, api.Seg{Name: "OBX", Fields: []api.Field{field}})
	return n
}

// whole is a message's shape with the room behind its lists as if it belonged to them.
func whole(m api.Message) string {
	n := api.Message{Marks: m.Marks}
	for _, s := range m.Segs[:cap(m.Segs)] {
		seg := api.Seg{Name: s.Name}
		for _, f := range s.Fields[:cap(s.Fields)] {
			var fl api.Field
			for _, r := range f.Reps[:cap(f.Reps)] {
				var rp api.Rep
				for _, c := range r.Comps[:cap(r.Comps)] {
					rp.Comps = append(rp.Comps, api.Comp{Subs: c.Subs[:cap(c.Subs)]})
				}
				fl.Reps = append(fl.Reps, rp)
			}
			seg.Fields = append(seg.Fields, fl)
		}
		n.Segs = append(n.Segs, seg)
	}
	return shape(n)
}

type stretch struct{ from, to uintptr }

func stretchOf(list any) []stretch {
	v := reflect.ValueOf(list)
	if v.Cap() == 0 {
		return nil
	}
	return []stretch{{v.Pointer(), v.Pointer() + uintptr(v.Cap())*v.Type().Elem().Size()}}
}

// stretches are the pieces of memory in which a message's lists stand.
func stretches(m api.Message) []stretch {
	all := stretchOf(m.Segs)
	for _, s := range m.Segs {
		all = append(all, stretchOf(s.Fields)...)
		for _, f := range s.Fields {
			all = append(all, stretchOf(f.Reps)...)
			for _, r := range f.Reps {
				all = append(all, stretchOf(r.Comps)...)
				for _, c := range r.Comps {
					all = append(all, stretchOf(c.Subs)...)
				}
			}
		}
	}
	return all
}

// apart tells whether no two pieces of memory have a byte in common.
func apart(all []stretch) bool {
	slices.SortFunc(all, func(a, b stretch) int {
		if a.from < b.from {
			return -1
		}
		return 1
	})
	for i := 1; i < len(all); i++ {
		if all[i].from < all[i-1].to {
			return false
		}
	}
	return true
}

func TestP712HandedIn(t *testing.T) {
	r := dice(712)
	for range 400 {
		in := roomy(randomMessage(r))
		was := whole(in)
		var made []api.Message
		for _, p := range append(slices.Repeat([]api.Place{randomPlace(r, in)}, 2), randomPlace(r, in), at("MSH", 1, 4, 2, 2, 2), at("PID", 1, 3, 2, 2, 2), at("OBX", 1, 1, 1, 1, 4)) {
			Get(in, p)
			Wire(in, p)
			Count(in, p)
			for _, text := range []string{"", "x"} {
				if n, err := Set(in, p, text); err == nil {
					made = append(made, n)
				}
			}
			if n, err := Remove(in, p.Seg, p.Occur); err == nil {
				made = append(made, n)
			}
		}
		for range Walk(in) {
		}
		if whole(in) != was {
			t.Fatalf("P712: a call changed\n%s\nto\n%s", was, whole(in))
		}
		all := stretches(in)
		var shapes []string
		for _, n := range made {
			all = append(all, stretches(n)...)
			shapes = append(shapes, shape(n))
		}
		if !apart(all) {
			t.Fatalf("P712: lists share memory: %s", was)
		}
		scribble(in)
		for i, n := range made {
			if shape(n) != shapes[i] {
				t.Fatalf("P712: an answer hangs on the message that was handed in")
			}
		}
	}
}

// TestP712NilAndEmpty: lists without an element mean the same, nil or not.
func TestP712NilAndEmpty(t *testing.T) {
	empty := api.Message{Marks: common, Segs: []api.Seg{{Name: "MSH", Fields: []api.Field{{Reps: []api.Rep{}}, {Reps: []api.Rep{{Comps: []api.Comp{}}, {Comps: []api.Comp{{Subs: []string{}}}}}}}}, {Name: "PID", Fields: []api.Field{}}}}
	none := api.Message{Marks: common, Segs: []api.Seg{{Name: "MSH", Fields: []api.Field{{}, {Reps: []api.Rep{{}, {Comps: []api.Comp{{}}}}}}}, {Name: "PID"}}}
	for _, m := range []api.Message{empty, none} {
		if len(walked(m)) != 0 {
			t.Errorf("P707: %v", walked(m))
		}
		for _, p := range []api.Place{at("MSH", 1, 3), at("MSH", 1, 4), at("MSH", 1, 4, 2), at("MSH", 1, 4, 2, 1, 2), at("MSH", 1, 5), at("PID"), at("PID", 1, 2, 2, 2, 2)} {
			reads(t, m, tableOf(m), p)
			sets(t, m, p, "x")
			sets(t, m, p, "")
		}
	}
	for _, m := range []api.Message{{Marks: common}, {Marks: common, Segs: []api.Seg{}}, {}} {
		_, below := tree.Valid(m)
		_, err := Set(m, at("PID"), "x")
		refused(t, "P704: no segment", err, 0, api.ErrForm, below)
	}
}

// TestP712SharedLists: a message whose lists are one list many times is a tree like any other; a Set changes one place of it.
func TestP712SharedLists(t *testing.T) {
	subs := []string{"a", "b"}
	comps := []api.Comp{{Subs: subs}, {Subs: subs}}
	reps := []api.Rep{{Comps: comps}, {Comps: comps}}
	fields := []api.Field{{Reps: reps}, {Reps: reps}}
	m := api.Message{Marks: common, Segs: []api.Seg{{Name: "MSH", Fields: fields}, {Name: "PID", Fields: fields}, {Name: "PID", Fields: fields}}}
	was := whole(m)
	for _, p := range []api.Place{at("PID"), at("PID", 2, 2, 2, 2, 2), at("MSH", 1, 3, 2, 1, 1), at("MSH", 1, 4, 3), at("PID", 1, 1, 1, 1, 3)} {
		for _, text := range []string{"x", ""} {
			n := sets(t, m, p, text)
			if whole(m) != was || !apart(append(stretches(n), stretchOf(subs)...)) {
				t.Fatalf("P712: Set at %v writes into lists that it was handed", p)
			}
		}
	}
	n, err := Remove(m, "PID", 1)
	if err != nil || !apart(append(stretches(n), stretchOf(subs)...)) {
		t.Errorf("P712: Remove: %v", err)
	}
	// The greatest tree of empty subs there may be: the work is not in the places asked for.
	big := slices.Repeat([]api.Field{{Reps: slices.Repeat([]api.Rep{{Comps: slices.Repeat([]api.Comp{{Subs: make([]string, 16)}}, 32)}}, 32)}}, 64)
	m = api.Message{Marks: common, Segs: []api.Seg{{Name: "MSH", Fields: big}, {Name: "PID", Fields: big}}}
	sets(t, m, at("PID", 1, 64, 32, 32, 16), "x")
	reads(t, m, tableOf(m), at("PID", 1, 64, 32, 32, 16))
	if got := walked(m); got != nil {
		t.Errorf("P707: %v", got)
	}
}

// TestP712Whatever: no call panics, whatever it is given.
func TestP712Whatever(t *testing.T) {
	numbers := []int{math.MinInt, -1, 0, 1, 2, 16, 17, 32, 33, 64, 65, 66, 67, 128, 129, math.MaxInt}
	r := dice(7120)
	messages := append(wrongMessages(), mustParse(t, small), longMessage())
	for range 40000 {
		m := pick(r, messages)
		p := api.Place{Seg: pick(r, []string{"", "MSH", "PID", "NK1", "p", "PIDS", "\xff\xff\xff"}), Occur: pick(r, numbers), Field: pick(r, numbers), Rep: pick(r, numbers), Comp: pick(r, numbers), Sub: pick(r, numbers)}
		_, errGet := getError(Get(m, p))
		_, errWire := getError(Wire(m, p))
		_, errPrint := Print(p)
		if (errPrint == nil) != modelRight(p) || modelRight(p) && (errGet == nil) != (errWire == nil) {
			t.Fatalf("P703: %v, %v, %v", errPrint, errGet, errWire)
		}
		Set(m, p, "x")
		Count(m, p)
		Remove(m, p.Seg, p.Occur)
		for range Walk(m) {
			break
		}
	}
}

func getError(text string, ok bool, err error) (string, error) { return text, err }

// TestP712SameAnswer: what is asked twice is answered the same, whatever was asked between.
func TestP712SameAnswer(t *testing.T) {
	r := dice(7121)
	for range 500 {
		m := randomMessage(r)
		p := randomPlace(r, m)
		a, err := Set(m, p, "x")
		other := randomMessage(r)
		Set(other, randomPlace(r, other), "y")
		Parse("PID-3[2]")
		b, err2 := Set(m, p, "x")
		if shape(a) != shape(b) || !reflect.DeepEqual(err, err2) {
			t.Fatalf("P712: two answers to one question: %v, %v", err, err2)
		}
	}
}
