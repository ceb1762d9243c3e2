package inbox

import (
	"slices"
	"testing"

	"courier/api"
)

func TestP1504RefusalsInTheirOrder(t *testing.T) {
	for set := range 1 << 5 {
		e := open(9)
		room := 4
		var want api.Errno
		if set&16 != 0 {
			room, want = 3, api.ErrFull
		}
		if set&8 != 0 {
			e.Control, want = name(set>>4), api.ErrTwice
		}
		if set&4 != 0 {
			e.Tick, want = 3, api.ErrEntry
		}
		if set&2 != 0 {
			e.Code, want = "AA", api.ErrEntry
		}
		if set&1 != 0 {
			e.Commit, want = make([]byte, 2049), api.ErrEntry
		}
		b, m := both(t, 4, room, entries("dodoo"))
		agrees(t, "Accept", b.Accept(e), want)
		if got := m.accept(e); got != want {
			t.Fatalf("the model: %d, want %d", got, want)
		}
		stands(t, "Accept", b, m)
	}
}

func TestP1504TicksBehindTheLast(t *testing.T) {
	for _, last := range []int{0, 1, 7, latest - 1, latest} {
		for _, word := range []string{"o", "d", "od", "do"} {
			for _, n := range []int{0, last - 1, last, last + 1, latest} {
				list := entries(word)
				list[0].Tick = 0
				list[len(list)-1].Tick = last
				b, m := both(t, 4, 4, list)
				e := open(9)
				e.Tick = n
				accepts(t, b, m, e)
				if kept, _ := b.Count(); (kept > len(list)) != (n >= last && n <= latest) {
					t.Fatalf("the tick %d behind %d: %d are kept", n, last, kept)
				}
			}
		}
	}
}

// The last entry's tick holds, though it was decided, though others have gone, and though no older one has a lower tick.
func TestP1504TheTickOfTheLastOneWhateverGoes(t *testing.T) {
	b, m := both(t, 1, 2, nil)
	tick := func(i, n int) api.InEntry {
		e := open(i)
		e.Tick = n
		return e
	}
	for i := range 6 {
		accepts(t, b, m, tick(i, 10*i))
		decides(t, b, m, name(i), "AA", nil)
		accepts(t, b, m, tick(90, 10*i-1))
		if n, o := b.Count(); o != 0 || n != min(i+1, 2) {
			t.Fatalf("Count() = %d, %d", n, o)
		}
	}
	accepts(t, b, m, tick(90, 50))
}

func TestP1504AControlIDThatIsKept(t *testing.T) {
	b, m := both(t, 1, 3, entries("odod"))
	for i := range 4 {
		e := open(i)
		e.Tick, e.Text = 9, []byte("another")
		refused(t, name(i), b.Accept(e), api.ErrTwice, 0)
		accepts(t, b, m, e)
	}
	// One that has gone is as if it had never been: it may come again, and is a new one.
	wentBy(t, b, m, name(2), name(1))
	e := open(1)
	e.Tick, e.Text = 9, []byte("another")
	accepts(t, b, m, e)
	if l, ok := b.Last(); !ok || !isSame(l, e) {
		t.Fatalf("Last() = %v, %v", l, ok)
	}
	accepts(t, b, m, e)
	wentBy(t, b, m, name(1), name(2))
	wentBy(t, b, m, name(0), name(0))
}

func TestP1504Room(t *testing.T) {
	for _, room := range []int{1, 2, mostIn} {
		b, m := both(t, 2, room, nil)
		for i := range room + 2 {
			accepts(t, b, m, open(i))
		}
		refused(t, "no room", b.Accept(open(99)), api.ErrFull, 0)
		for i := range room {
			decides(t, b, m, name(i), "AR", nil)
			accepts(t, b, m, open(100+i))
			refused(t, "no room", b.Accept(open(999)), api.ErrFull, 0)
		}
	}
}

func TestP1504NoOtherGoes(t *testing.T) {
	b, m := both(t, 1, mostIn, entries("dd"))
	for i := range mostIn {
		accepts(t, b, m, open(10+i))
	}
	if n, o := b.Count(); n != mostIn+2 || o != mostIn {
		t.Fatalf("Count() = %d, %d", n, o)
	}
}

func TestP1504BehindAllOthers(t *testing.T) {
	b, m := both(t, 2, 4, entries("dodo"))
	for i, id := range []string{"zz", "0"} {
		e := open(4)
		e.Control = id
		accepts(t, b, m, e)
		l := b.List()
		if len(l) != 5+i || l[4+i].Control != id || !slices.Equal(b.Open()[2+i:], []string{id}) {
			t.Fatalf("%s stands in %v", id, l)
		}
	}
}
