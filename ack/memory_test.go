package ack

import (
	"bytes"
	"math/rand"
	"reflect"
	"slices"
	"testing"

	"courier/api"
)

// P1009, and what DOC.md says of memory.

func room[E any](list []E, behind E) []E {
	return append(slices.Clone(list), behind, behind)[:len(list)]
}

// behind tells whether the room behind a list has what room put there.
func behind[E any](list []E, is func(e E) bool) bool {
	rest := list[len(list) : len(list)+2]
	return is(rest[0]) && is(rest[1])
}

// spoil overwrites a list and the room behind it.
func spoil[E any](list []E, with E) {
	list = list[:cap(list)]
	for i := range list {
		list[i] = with
	}
}

func oneSub(text string) api.Comp { return api.Comp{Subs: []string{text}} }

func oneComp(text string) api.Rep { return api.Rep{Comps: []api.Comp{oneSub(text)}} }

func oneRep(text string) api.Field { return api.Field{Reps: []api.Rep{oneComp(text)}} }

// roomy gives a copy of a message in which each list has room behind its end, with something in it.
func roomy(m api.Message) api.Message {
	m = cloneMessage(m)
	for i := range m.Segs {
		fields := m.Segs[i].Fields
		for _, f := range fields {
			for _, r := range f.Reps {
				for l, c := range r.Comps {
					r.Comps[l].Subs = room(c.Subs, "room")
				}
			}
			for k, r := range f.Reps {
				f.Reps[k].Comps = room(r.Comps, oneSub("room"))
			}
		}
		for j, f := range fields {
			fields[j].Reps = room(f.Reps, oneComp("room"))
		}
		m.Segs[i].Fields = room(fields, oneRep("room"))
	}
	m.Segs = room(m.Segs, api.Seg{Name: "room"})
	return m
}

// untouched tells whether the room behind each list of a roomy message is as it was.
func untouched(m api.Message) bool {
	ok := behind(m.Segs, func(s api.Seg) bool { return s.Name == "room" })
	for _, s := range m.Segs {
		ok = ok && behind(s.Fields, func(f api.Field) bool { return reflect.DeepEqual(f, oneRep("room")) })
		for _, f := range s.Fields {
			ok = ok && behind(f.Reps, func(r api.Rep) bool { return reflect.DeepEqual(r, oneComp("room")) })
			for _, r := range f.Reps {
				ok = ok && behind(r.Comps, func(c api.Comp) bool { return reflect.DeepEqual(c, oneSub("room")) })
				for _, c := range r.Comps {
					ok = ok && behind(c.Subs, func(text string) bool { return text == "room" })
				}
			}
		}
	}
	return ok
}

func TestP1009ArgumentsStay(t *testing.T) {
	r := rand.New(rand.NewSource(1009))
	for range 2000 {
		m := randomMessage(t, r)
		wide := roomy(m)
		first, err := Read(wide)
		answer := Answer(wide.Marks, wide.Segs[0])
		Is(wide)
		if !sameMessage(wide, m) || !untouched(wide) {
			t.Fatalf("%v was changed: %v", m, wide)
		}
		kept := slices.Clone(first.Errors)
		spoil(first.Errors, api.Finding{Code: -1})
		again, errAgain := Read(wide)
		if first.Errors = kept; !same(first, again) || (err == nil) != (errAgain == nil) {
			t.Fatalf("%v a second time: %+v, %v, first %+v, %v", m, again, errAgain, first, err)
		}
		if !same(answer, Answer(wide.Marks, wide.Segs[0])) {
			t.Fatalf("%v: Answer a second time", m)
		}
	}
}

func TestP1009AcksStay(t *testing.T) {
	odd := api.Finding{Code: -7, Seg: "room"}
	for _, a := range built() {
		before := slices.Clone(a.Errors)
		a.Errors = room(a.Errors, odd)
		err := Right(a)
		m, _ := Build(a)
		text, _ := Text(a)
		if err != nil || !slices.Equal(a.Errors, before) || !behind(a.Errors, func(f api.Finding) bool { return f == odd }) {
			t.Fatalf("%+v was changed, or %v", a, err)
		}
		spoil(a.Errors, odd)
		want := a
		want.Errors = before
		if back, err := Read(m); err != nil || !same(back, want) || string(text) != modelText(want) {
			t.Fatalf("%+v: the list was kept: %+v, %v", want, back, err)
		}
	}
}

type stretch struct{ from, to uintptr }

func stretchOf(list any) []stretch {
	v := reflect.ValueOf(list)
	if v.Cap() == 0 {
		return nil
	}
	return []stretch{{v.Pointer(), v.Pointer() + uintptr(v.Cap())*v.Type().Elem().Size()}}
}

// stretches are the pieces of memory in which a message's lists stand.
func stretches(m api.Message) []stretch {
	all := stretchOf(m.Segs)
	for _, s := range m.Segs {
		all = append(all, stretchOf(s.Fields)...)
		for _, f := range s.Fields {
			all = append(all, stretchOf(f.Reps)...)
			for _, r := range f.Reps {
				all = append(all, stretchOf(r.Comps)...)
				for _, c := range r.Comps {
					all = append(all, stretchOf(c.Subs)...)
				}
			}
		}
	}
	return all
}

func apart(all []stretch) bool {
	slices.SortFunc(all, func(a, b stretch) int { return int(int64(a.from) - int64(b.from)) })
	for i := 1; i < len(all); i++ {
		if all[i].from < all[i-1].to {
			return false
		}
	}
	return true
}

func TestP1009AnswersAreNew(t *testing.T) {
	for _, a := range built() {
		m, _ := Build(a)
		n, _ := Build(a)
		if !apart(append(stretches(m), stretches(n)...)) {
			t.Fatalf("%+v: lists of the messages share memory", a)
		}
		b, _ := Read(m)
		c, _ := Read(m)
		if !apart(append(append(stretchOf(a.Errors), stretchOf(b.Errors)...), stretchOf(c.Errors)...)) {
			t.Fatalf("%+v: lists of findings share memory", a)
		}
		text, _ := Text(a)
		want := bytes.Clone(text)
		again, _ := Text(a)
		spoil(text, 'x')
		if !bytes.Equal(again, want) {
			t.Fatalf("%+v: two texts share memory", a)
		}
	}
}

// TestP1009NoPanic hands all calls what is mostly wrong.
func TestP1009NoPanic(t *testing.T) {
	r := rand.New(rand.NewSource(10090))
	for _, m := range wrongMessages(t) {
		Read(m)
		for _, s := range m.Segs {
			Answer(m.Marks, s)
		}
	}
	for range 5000 {
		m := randomMessage(t, r)
		if r.Intn(2) == 0 {
			m.Marks = api.Marks{Field: byte(r.Intn(256)), Comp: byte(r.Intn(256)), Rep: '~', Esc: byte(r.Intn(256)), Sub: '&'}
		}
		s := pick(r, m.Segs...)
		if len(s.Fields) > 0 {
			f := &s.Fields[r.Intn(len(s.Fields))]
			f.Reps = append(f.Reps, make([]api.Rep, r.Intn(40))...)
		}
		a, _ := Read(m)
		b := Answer(m.Marks, s)
		for _, x := range []api.Ack{a, b} {
			Right(x)
			Build(x)
			Text(x)
		}
		a.Marks = m.Marks
		a.Errors = append(a.Errors, api.Finding{Code: r.Intn(300), Seg: pick(r, someFields...), Occur: r.Intn(10) - 5})
		Text(a)
	}
	Answer(api.Marks{}, api.Seg{})
	Is(api.Message{})
}
