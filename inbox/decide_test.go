package inbox

import (
	"bytes"
	"slices"
	"testing"

	"courier/api"
)

func TestP1505RefusalsInTheirOrder(t *testing.T) {
	for set := range 1 << 4 {
		control, code, answer := name(1), "AE", []byte("y")
		want := api.OK
		if set&8 != 0 {
			control, want = name(2), api.ErrTwice
		}
		if set&4 != 0 {
			control, want = "nobody", api.ErrUnknown
		}
		if set&2 != 0 {
			answer, want = make([]byte, 2049), api.ErrLong
		}
		if set&1 != 0 {
			code, want = "CA", api.ErrVerdict
		}
		b, m := both(t, 2, 3, entries("dodd"))
		gone, err := b.Decide(control, code, answer)
		agrees(t, "Decide", err, want)
		if l, no := m.decide(control, code, answer); no != want || !slices.Equal(l, gone) {
			t.Fatalf("the model: %d, %v; want %d, %v", no, l, want, gone)
		}
		stands(t, "Decide", b, m)
	}
}

func TestP1505Codes(t *testing.T) {
	for _, code := range verdicts() {
		b, m := both(t, 2, 3, entries("o"))
		decides(t, b, m, name(0), code, []byte("y"))
		want := open(0)
		want.Code, want.Answer = code, []byte("y")
		if e, ok := b.Find(name(0)); !ok || !isSame(e, want) {
			t.Fatalf("Find = %v, %v", e, ok)
		}
		for _, again := range verdicts() {
			_, err := b.Decide(name(0), again, nil)
			refused(t, "again", err, api.ErrTwice, 0)
		}
		stands(t, "again", b, m)
	}
	b, m := both(t, 2, 3, entries("od"))
	for _, code := range append(wrongCodes(), "") {
		for _, id := range []string{name(0), name(1), "nobody", ""} {
			_, err := b.Decide(id, code, nil)
			refused(t, code, err, api.ErrVerdict, 0)
			decides(t, b, m, id, code, make([]byte, 2049))
		}
	}
}

func TestP1505Answers(t *testing.T) {
	for _, n := range []int{0, 1, 2047, 2048, 2049, 2050, 1 << 16} {
		b, m := both(t, 2, 3, entries("o"))
		answer := bytes.Repeat([]byte{0xff}, n)
		decides(t, b, m, name(0), "AA", answer)
		e, _ := b.Find(name(0))
		if (e.Code == "AA") != (n <= 2048) || n <= 2048 && !bytes.Equal(e.Answer, answer) {
			t.Fatalf("%d bytes: %v", n, e)
		}
	}
	b, m := both(t, 2, 3, entries("o"))
	decides(t, b, m, name(0), "AA", nil)
	if e, ok := b.Find(name(0)); !ok || e.Code != "AA" || len(e.Answer) != 0 {
		t.Fatalf("without an answer: %v, %v", e, ok)
	}
}

func TestP1505IDsThatAreNotThere(t *testing.T) {
	b, m := both(t, 2, 3, entries("odo"))
	for _, id := range append(someIDs(), "", "a0", "A0 ", " A0", "A00", "A3", "A0\x00", "A0A1") {
		_, err := b.Decide(id, "AA", nil)
		refused(t, id, err, api.ErrUnknown, 0)
	}
	stands(t, "unknown", b, m)
	// One that has gone is not there either.
	b, m = both(t, 1, 3, entries("oddo"))
	wentBy(t, b, m, name(3), name(1))
	_, err := b.Decide(name(1), "AA", nil)
	refused(t, "gone", err, api.ErrUnknown, 0)
	wentBy(t, b, m, name(0), name(0))
	_, err = b.Decide(name(0), "AA", nil)
	refused(t, "gone", err, api.ErrUnknown, 0)
	stands(t, "gone", b, m)
}

// For each keep and each place of the entry that is decided: with K + 2 decided ones the first of them goes.
func TestP1505TheFirstOfThemGoes(t *testing.T) {
	for _, keep := range []int{1, 2, 5, mostOld} {
		for at := range keep + 2 {
			var list []api.InEntry
			for i := range keep + 2 {
				e := decided(i)
				if i == at {
					e = open(i)
				}
				list = append(list, e)
			}
			b, m := both(t, keep, 1, list)
			wentBy(t, b, m, name(at), name(0))
			if e, ok := b.Find(name(at)); ok != (at != 0) || ok && e.Code != "AA" {
				t.Fatalf("keep %d: Find(%s) = %v, %v", keep, name(at), e, ok)
			}
			// Now K + 1 are there: the next one that is accepted and decided sends the next one away.
			accepts(t, b, m, open(keep+2))
			wentBy(t, b, m, name(keep+2), name(1))
		}
	}
}

func TestP1505NoneGoesUpToKeepAndOne(t *testing.T) {
	for _, keep := range []int{1, 2, 31} {
		orders := [][]int{nil, nil}
		for i := range keep + 1 {
			orders[0] = append(orders[0], i)
			orders[1] = append([]int{i}, orders[1]...)
		}
		for _, order := range orders {
			b, m := both(t, keep, mostIn, nil)
			for i := range keep + 1 {
				accepts(t, b, m, open(i))
			}
			for _, i := range order {
				wentBy(t, b, m, name(i))
			}
			if n, o := b.Count(); n != keep+1 || o != 0 {
				t.Fatalf("Count() = %d, %d", n, o)
			}
		}
	}
}

// Verdicts in every order over five entries: the model says who goes, the definition who is kept.
func TestP1505VerdictsInEveryOrder(t *testing.T) {
	var each func(done []int, left []int, look func(order []int))
	each = func(done, left []int, look func(order []int)) {
		if len(left) == 0 {
			look(done)
		}
		for i, n := range left {
			each(append(slices.Clone(done), n), slices.Concat(left[:i], left[i+1:]), look)
		}
	}
	for keep := 1; keep <= 4; keep++ {
		each(nil, []int{0, 1, 2, 3, 4}, func(order []int) {
			b, m := both(t, keep, 5, entries("ooooo"))
			for n, i := range order {
				decides(t, b, m, name(i), verdicts()[n%3], []byte{byte(n)})
			}
			for i := range 5 {
				if _, ok := b.Find(name(i)); ok != (i >= 4-keep) {
					t.Fatalf("keep %d, %v: %s is kept: %v", keep, order, name(i), ok)
				}
			}
		})
	}
}

func TestP1507AnOpenOneNeverGoes(t *testing.T) {
	for _, keep := range []int{1, 3} {
		b, m := both(t, keep, 4, nil)
		for i := range 3 {
			accepts(t, b, m, open(i))
		}
		for i := 3; i < 200; i++ {
			accepts(t, b, m, open(i))
			decides(t, b, m, name(i), "AE", nil)
			if !slices.Equal(b.Open(), []string{name(0), name(1), name(2)}) {
				t.Fatalf("Open() = %v", b.Open())
			}
			if e, ok := b.Last(); !ok || e.Control != name(i) {
				t.Fatalf("Last() = %v, %v", e, ok)
			}
		}
		for i := range 3 {
			wentBy(t, b, m, name(i), name(i))
		}
	}
}

func TestP1507TheLastOneIsAlwaysKept(t *testing.T) {
	b, m := both(t, 1, 3, nil)
	for i := range 40 {
		accepts(t, b, m, open(2*i))
		accepts(t, b, m, open(2*i+1))
		decides(t, b, m, name(2*i+1), "AA", nil)
		decides(t, b, m, name(2*i), "AA", nil)
		if e, ok := b.Last(); !ok || e.Control != name(2*i+1) || e.Code != "AA" {
			t.Fatalf("Last() = %v, %v", e, ok)
		}
	}
}
