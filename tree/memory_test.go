package tree

import (
	"bytes"
	"reflect"
	"slices"
	"strings"
	"testing"

	"courier/api"
)

// P611, and what DOC.md says of memory.

// scribble writes over all of a message, the room behind its lists too.
func scribble(m api.Message) {
	for i, s := range m.Segs {
		for j, f := range s.Fields {
			for k, r := range f.Reps {
				for l, c := range r.Comps {
					over1(c.Subs, "scribbled")
					r.Comps[l] = comp("scribbled")
				}
				over1(r.Comps, comp("scribbled"))
				f.Reps[k] = rep(comp("scribbled"))
			}
			over1(f.Reps, rep(comp("scribbled")))
			s.Fields[j] = one("scribbled")
		}
		over1(s.Fields, one("scribbled"))
		m.Segs[i].Name = "XXX"
	}
	over1(m.Segs, api.Seg{Name: "XXX"})
}

func over1[E any](list []E, with E) {
	list = list[:cap(list)]
	for i := range list {
		list[i] = with
	}
}

// roomy gives a copy of a message in which each list has room behind its end, with something in it.
func roomy(m api.Message) api.Message {
	n := api.Message{Marks: m.Marks}
	for _, s := range m.Segs {
		seg := api.Seg{Name: s.Name}
		for _, f := range s.Fields {
			var fl api.Field
			for _, r := range f.Reps {
				var rp api.Rep
				for _, c := range r.Comps {
					rp.Comps = append(rp.Comps, api.Comp{Subs: room(c.Subs, "room")})
				}
				fl.Reps = append(fl.Reps, api.Rep{Comps: room(rp.Comps, comp("room"))})
			}
			seg.Fields = append(seg.Fields, api.Field{Reps: room(fl.Reps, rep(comp("room")))})
		}
		seg.Fields = room(seg.Fields, one("room"))
		n.Segs = append(n.Segs, seg)
	}
	n.Segs = room(n.Segs, api.Seg{Name: "room"})
	return n
}

func room[E any](list []E, behind E) []E {
	wide := append(slices.Clone(list), behind, behind)
	return wide[:len(list)]
}

// whole is a message's shape with the room behind its lists as if it belonged to them.
func whole(m api.Message) string {
	n := api.Message{Marks: m.Marks}
	for _, s := range m.Segs[:cap(m.Segs)] {
		seg := api.Seg{Name: s.Name}
		for _, f := range s.Fields[:cap(s.Fields)] {
			var fl api.Field
			for _, r := range f.Reps[:cap(f.Reps)] {
				var rp api.Rep
				for _, c := range r.Comps[:cap(r.Comps)] {
					rp.Comps = append(rp.Comps, api.Comp{Subs: c.Subs[:cap(c.Subs)]})
				}
				fl.Reps = append(fl.Reps, rp)
			}
			seg.Fields = append(seg.Fields, fl)
		}
		n.Segs = append(n.Segs, seg)
	}
	return shape(n)
}

type stretch struct{ from, to uintptr }

func stretchOf(list any) []stretch {
	v := reflect.ValueOf(list)
	if v.Cap() == 0 {
		return nil
	}
	return []stretch{{v.Pointer(), v.Pointer() + uintptr(v.Cap())*v.Type().Elem().Size()}}
}

// stretches are the pieces of memory in which a message's lists stand.
func stretches(m api.Message) []stretch {
	all := stretchOf(m.Segs)
	for _, s := range m.Segs {
		all = append(all, stretchOf(s.Fields)...)
		for _, f := range s.Fields {
			all = append(all, stretchOf(f.Reps)...)
			for _, r := range f.Reps {
				all = append(all, stretchOf(r.Comps)...)
				for _, c := range r.Comps {
					all = append(all, stretchOf(c.Subs)...)
				}
			}
		}
	}
	return all
}

// apart tells whether no two pieces of memory have a byte in common.
func apart(all []stretch) bool {
	slices.SortFunc(all, func(a, b stretch) int {
		if a.from < b.from {
			return -1
		}
		return 1
	})
	for i := 1; i < len(all); i++ {
		if all[i].from < all[i-1].to {
			return false
		}
	}
	return true
}

func TestP611HandedIn(t *testing.T) {
	for _, m := range messages() {
		in := roomy(m)
		was := whole(in)
		Valid(in)
		Print(in)
		n := Normal(in)
		turned, _ := Turn(in, other)
		Equal(in, in)
		var given []api.Seg
		for _, s := range Segments(in, "") {
			given = append(given, s)
		}
		if whole(in) != was {
			t.Fatalf("P611: a call changed %s to %s", was, whole(in))
		}
		copied := api.Message{Segs: given}
		if !apart(slices.Concat(stretches(in), stretches(n), stretches(turned), stretches(copied))) {
			t.Fatalf("P611: lists share memory: %s", was)
		}
		normal, other, segs := shape(n), shape(turned), shape(copied)
		scribble(in)
		if shape(n) != normal || shape(turned) != other || shape(copied) != segs {
			t.Fatalf("P611: an answer hangs on the message that was handed in")
		}
	}
}

func TestP611Read(t *testing.T) {
	for _, text := range []string{head, rich, head + "|a&b&c^d~e~~|f||\rPID|x^&y^z"} {
		room := append([]byte(text), "|room|"...)
		in := room[:len(text)]
		m, err := Parse(in)
		h, err2 := Head(in)
		if err != nil || err2 != nil || !bytes.Equal(room, []byte(text+"|room|")) {
			t.Fatalf("P611: %v, %v, %q", err, err2, room)
		}
		if !apart(append(stretches(m), stretches(h)...)) {
			t.Errorf("P611: lists share memory: %s", shape(m))
		}
		was, wasHead := shape(m), shape(h)
		over1(room, 'z')
		if shape(m) != was || shape(h) != wasHead {
			t.Errorf("P611: the message hangs on the text that was handed in")
		}
		printed, _ := Print(m)
		again, _ := Print(m)
		want := string(printed)
		over1(again, 'z')
		scribble(m)
		if string(printed) != want {
			t.Errorf("P611: two answers share memory")
		}
	}
	broken := with(one("\t"))
	at, _ := Valid(broken)
	over1(at, 7)
	if again, _ := Valid(broken); !slices.Equal(again, []int{1, 0, 0, 0, 0}) {
		t.Errorf("P611: a place that was written over comes again: %v", again)
	}
}

// TestP611NilAndEmpty: lists without an element mean the same, nil or not.
func TestP611NilAndEmpty(t *testing.T) {
	empty := api.Message{Marks: common, Segs: []api.Seg{{Name: "MSH", Fields: []api.Field{{Reps: []api.Rep{}}, {Reps: []api.Rep{{Comps: []api.Comp{}}, {Comps: []api.Comp{{Subs: []string{}}}}}}}}, {Name: "PID", Fields: []api.Field{}}}}
	none := api.Message{Marks: common, Segs: []api.Seg{{Name: "MSH", Fields: []api.Field{{}, {Reps: []api.Rep{{}, {Comps: []api.Comp{{}}}}}}}, {Name: "PID"}}}
	for _, m := range []api.Message{empty, none} {
		right(t, "lists without an element", m)
		b, err := Print(m)
		turned, err2 := Turn(m, other)
		if err != nil || err2 != nil || string(b) != head+"\rPID\r" || shape(turned) != "\"#$%!?\"\n\"MSH\"\n\"PID\"" {
			t.Errorf("P611: %q, %v, %s, %v", b, err, shape(turned), err2)
		}
	}
	if !Equal(empty, none) || shape(Normal(empty)) != shape(Normal(none)) {
		t.Errorf("P606: nil and empty lists are unlike")
	}
	for _, text := range [][]byte{nil, {}} {
		_, err := Parse(text)
		_, err2 := Head(text)
		below := &api.Fault{Layer: "esc", Code: api.ErrHead}
		refused(t, "P601: no text", err, api.ErrNoMSH, 0, below)
		refused(t, "P602: no text", err2, api.ErrNoMSH, 0, below)
	}
}

// TestP611SharedLists: a message whose lists are one list many times is a tree like any other, and a great one.
func TestP611SharedLists(t *testing.T) {
	subs := make([]string, 16)
	comps := slices.Repeat([]api.Comp{{Subs: subs}}, 32)
	reps := slices.Repeat([]api.Rep{{Comps: comps}}, 32)
	fields := slices.Repeat([]api.Field{{Reps: reps}}, 64)
	m := api.Message{Marks: common, Segs: slices.Repeat([]api.Seg{{Name: "PID", Fields: fields}}, 4)}
	m.Segs[0].Name = "MSH"
	if b, err := Print(m); err != nil || string(b) != head+strings.Repeat("\rPID", 3)+"\r" {
		t.Errorf("P603: %q, %v", b, err)
	}
	subs[15] = "x"
	right(t, "all lists at their bounds", m)
	_, err := Print(m)
	refused(t, "P603: all lists at their bounds", err, api.ErrLong, 0, nil)
	m.Segs = m.Segs[:1]
	m.Segs[0].Fields = fields[:1]
	reps = reps[:4]
	fields[0].Reps = reps
	n := Normal(m)
	if !apart(stretches(n)) {
		t.Error("P605: lists of the answer share memory")
	}
	subs[15] = "y"
	if strings.Contains(shape(n), "y") || strings.Count(shape(n), "x") != 4*32 {
		t.Errorf("P605: %s", shape(n))
	}
}
