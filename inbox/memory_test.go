package inbox

import (
	"bytes"
	"reflect"
	"testing"

	"courier/api"
)

// spoil writes over a byte string and the room behind it.
func spoil(b []byte) {
	b = b[:cap(b)]
	for i := range b {
		b[i] = '!'
	}
}

func spoilEntry(e *api.InEntry) {
	spoil(e.Text)
	spoil(e.Commit)
	spoil(e.Answer)
	*e = api.InEntry{Control: "gone", Number: 77, Code: "AR"}
}

// roomy gives a byte string with room behind it.
func roomy(text []byte) []byte { return append(make([]byte, 0, 64), text...) }

func allRoomy(list []api.InEntry) []api.InEntry {
	list = append(make([]api.InEntry, 0, len(list)+4), list...)
	for i := range list {
		list[i].Text, list[i].Commit, list[i].Answer = roomy(list[i].Text), roomy(list[i].Commit), roomy(list[i].Answer)
	}
	return list
}

func TestP1509WhatIsHandedInIsNotKept(t *testing.T) {
	list := allRoomy(entries("dodoo"))
	b, m := both(t, 2, 4, list)
	for i := range list {
		spoilEntry(&list[i])
	}
	if list = append(list, api.InEntry{Control: "more"}); len(list) != 6 {
		t.Fatal("the list of its holder")
	}
	stands(t, "the list is written over", b, m)
	e := allRoomy(entries("oooooo"))[5]
	accepts(t, b, m, e)
	spoilEntry(&e)
	stands(t, "the entry is written over", b, m)
	for _, id := range []string{name(1), name(5), name(3)} {
		answer := roomy([]byte("answer"))
		decides(t, b, m, id, "AE", answer)
		spoil(answer)
		stands(t, "the answer is written over", b, m)
	}
}

func TestP1509WhatIsHandedInStays(t *testing.T) {
	whole := bytes.Repeat([]byte("abcd"), 64)
	piece := func(i int) []byte { return whole[i*8 : i*8+5] }
	list := append(make([]api.InEntry, 0, 9), entries("dodoo")...)
	for i := range list {
		list[i].Text, list[i].Commit = piece(3*i), piece(3*i+1)
		if list[i].Code != "" {
			list[i].Answer = piece(3*i + 2)
		}
	}
	before := append([]api.InEntry(nil), list[:9]...)
	b := load(t, 1, 4, list)
	e := open(5)
	e.Text, e.Commit = piece(20), piece(21)
	if err := b.Accept(e); err != nil {
		t.Fatal(err)
	}
	for _, i := range []int{1, 5, 4, 3} {
		if _, err := b.Decide(name(i), "AR", piece(22+i)); err != nil {
			t.Fatal(err)
		}
	}
	// Refused ones change nothing either.
	for range 2 {
		list[4].Tick = 0
		if _, err := Load(1, 4, list); err == nil {
			t.Fatal("a tick too low is taken")
		}
		list[4].Tick = 4
	}
	if !bytes.Equal(whole, bytes.Repeat([]byte("abcd"), 64)) || !reflect.DeepEqual(before, list[:9]) {
		t.Error("what was handed in has changed")
	}
}

func TestP1509WhatIsHandedOut(t *testing.T) {
	b, m := both(t, 2, 4, entries("dodoo"))
	for i := range 5 {
		e, ok := b.Find(name(i))
		if !ok {
			t.Fatal(name(i))
		}
		spoilEntry(&e)
		stands(t, "Find's entry", b, m)
	}
	e, _ := b.Last()
	spoilEntry(&e)
	stands(t, "Last's entry", b, m)
	l := b.List()
	for i := range l {
		spoilEntry(&l[i])
	}
	_ = append(l, api.InEntry{Control: "more"})
	stands(t, "List's entries", b, m)
	ids := b.Open()
	for i := range ids {
		ids[i] = "spoilt"
	}
	_ = append(ids, "more")
	stands(t, "Open's ids", b, m)
	decides(t, b, m, name(1), "AA", []byte("y"))
	gone := decides(t, b, m, name(4), "AA", []byte("y"))
	gone[0] = name(3)
	_ = append(gone, "more")
	stands(t, "Decide's ids", b, m)
	accepts(t, b, m, open(9))
}

// Of one List no two byte strings share memory, room behind them included.
func TestP1509OneListSharesNothing(t *testing.T) {
	list := entries("dddooo")
	shared := bytes.Repeat([]byte("s"), 40)
	for i := range list {
		list[i].Text, list[i].Commit = shared[:20], shared[:20]
		if list[i].Code != "" {
			list[i].Answer = shared[:20]
		}
	}
	b, m := both(t, 2, 4, list)
	parts := func(l []api.InEntry) [][]byte {
		var all [][]byte
		for _, e := range l {
			all = append(all, e.Text, e.Commit, e.Answer)
		}
		return all
	}
	for i := range parts(list) {
		one, other := parts(b.List()), parts(b.List())
		spoil(one[i])
		for j := range one {
			if want := parts(list)[j]; !bytes.Equal(other[j], want) || j != i && !bytes.Equal(one[j], want) {
				t.Fatalf("the bytes %d have changed with %d", j, i)
			}
		}
	}
	stands(t, "List's bytes", b, m)
}

// nil and empty byte strings mean the same: what is told of them is the same too.
func TestP1509NilAndEmptyAreOne(t *testing.T) {
	made := func(none []byte) *Box {
		b := load(t, 1, 3, []api.InEntry{{Control: "a", Text: []byte("x"), Commit: none, Code: "AA", Answer: none}})
		for _, id := range []string{"b", "c"} {
			if err := b.Accept(api.InEntry{Control: id, Text: []byte("x"), Commit: none, Answer: none}); err != nil {
				t.Fatal(err)
			}
		}
		if _, err := b.Decide("b", "AE", none); err != nil {
			t.Fatal(err)
		}
		return b
	}
	one, other := made(nil), made([]byte{})
	if !reflect.DeepEqual(one.List(), other.List()) {
		t.Errorf("%#v, %#v", one.List(), other.List())
	}
}

func TestP1509InboxesOfOneList(t *testing.T) {
	list := entries("dodoo")
	b, m := both(t, 1, 4, list)
	c, n := both(t, 1, 4, list)
	wentBy(t, b, m, name(1), name(0))
	stands(t, "the other", c, n)
	wentBy(t, c, n, name(4), name(0))
	stands(t, "the first", b, m)
	accepts(t, c, n, open(5))
	stands(t, "the first", b, m)
	accepts(t, b, m, open(6))
	stands(t, "the other", c, n)
}
