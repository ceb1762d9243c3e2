package inbox

import (
	"math"
	"testing"

	"courier/api"
)

func TestP1501Bounds(t *testing.T) {
	numbers := []int{math.MinInt, -64, -1, 0, 1, 2, 31, 32, 33, 34, 63, 64, 65, 66, 1 << 32, 1<<32 + 1, math.MaxInt}
	for _, keep := range numbers {
		for _, room := range numbers {
			b, err := New(keep, room)
			l, loadErr := Load(keep, room, entries("d"))
			w, wrongErr := Load(keep, room, []api.InEntry{{}})
			if keep >= 1 && keep <= mostOld && room >= 1 && room <= mostIn {
				if b == nil || err != nil || l == nil || loadErr != nil {
					t.Fatalf("New(%d, %d): %v, Load: %v", keep, room, err, loadErr)
				}
				refused(t, "Load", wrongErr, api.ErrEntry, 0)
				stands(t, "New", b, &model{keep: keep, room: room})
				continue
			}
			refused(t, "New", err, api.ErrArg, 0)
			refused(t, "Load", loadErr, api.ErrArg, 0)
			refused(t, "Load of what may not be", wrongErr, api.ErrArg, 0)
			if b != nil || l != nil || w != nil {
				t.Fatalf("a Box beside the error of %d, %d", keep, room)
			}
		}
	}
}

func TestP1501EachRoomIsThere(t *testing.T) {
	for room := 1; room <= mostIn; room++ {
		b, m := both(t, 1, room, nil)
		for i := range room + 1 {
			accepts(t, b, m, open(i))
		}
		if n, o := b.Count(); n != room || o != room {
			t.Fatalf("room %d: Count() = %d, %d", room, n, o)
		}
	}
}

func TestP1501EachKeepIsKept(t *testing.T) {
	for keep := 1; keep <= mostOld; keep++ {
		b, m := both(t, keep, 1, nil)
		for i := range keep + 3 {
			accepts(t, b, m, open(i))
			if i <= keep {
				wentBy(t, b, m, name(i))
			} else {
				wentBy(t, b, m, name(i), name(i-keep-1))
			}
		}
		if n, o := b.Count(); n != keep+1 || o != 0 {
			t.Fatalf("keep %d: Count() = %d, %d", keep, n, o)
		}
	}
}

func TestP1501BoxesThatNobodyMade(t *testing.T) {
	for _, b := range []*Box{nil, {}, new(Box)} {
		for range 2 {
			for _, e := range []api.InEntry{{}, open(1), decided(1), {Control: "a b"}, {Text: make([]byte, 9000)}} {
				refused(t, "Accept", b.Accept(e), api.ErrZero, 0)
				if e, ok := b.Find(e.Control); ok || !isNone(e) {
					t.Errorf("Find: %v, %v", e, ok)
				}
			}
			for _, code := range []string{"", "AA", "CA"} {
				for _, id := range []string{"", "A1", "a b"} {
					l, err := b.Decide(id, code, make([]byte, 3000*len(id)))
					refused(t, "Decide", err, api.ErrZero, 0)
					if len(l) != 0 {
						t.Errorf("%v goes", l)
					}
				}
			}
			e, ok := b.Last()
			n, o := b.Count()
			if ok || !isNone(e) || n != 0 || o != 0 || len(b.Open()) != 0 || len(b.List()) != 0 {
				t.Errorf("%v, %v, %d, %d, %v, %v", e, ok, n, o, b.Open(), b.List())
			}
		}
		if b != nil && *b != (Box{}) {
			t.Errorf("a plain Box has changed: %v", *b)
		}
	}
}
