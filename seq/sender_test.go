package seq

import (
	"testing"

	"courier/api"
)

func TestP1201NewSender(t *testing.T) {
	for _, next := range []int{0, 1, 2, 77, top - 1, top} {
		hasNext(t, "a new sender", sender(t, next), next)
	}
}

func TestP1201NewSenderOutside(t *testing.T) {
	for _, next := range someInts() {
		if next >= 0 && next <= top {
			continue
		}
		s, err := NewSender(next)
		if s != nil {
			t.Errorf("NewSender(%d): a sender beside %v", next, err)
		}
		refused(t, "NewSender", err, api.ErrRange)
	}
}

func TestP1201NotMade(t *testing.T) {
	var plain Sender
	for what, s := range map[string]*Sender{"nil": nil, "plain": &plain, "new": new(Sender)} {
		for range 2 { // a call changes nothing
			hasNext(t, what, s, 0)
			n, err := s.Take()
			refused(t, what+": Take", err, api.ErrZero)
			if n != 0 {
				t.Errorf("%s: Take() = %d", what, n)
			}
			for _, a := range someInts() {
				refused(t, what+": Set", s.Set(a), api.ErrZero)
				for _, b := range someInts() {
					n, err := s.Back(a, b)
					refused(t, what+": Back", err, api.ErrZero)
					if n != 0 {
						t.Errorf("%s: Back(%d, %d) = %d", what, a, b, n)
					}
				}
			}
		}
	}
}

func TestP1202TakeFromOne(t *testing.T) {
	s := sender(t, 1)
	for n := 1; n <= 100000; n++ {
		takes(t, s, n)
		hasNext(t, "behind Take", s, n+1)
	}
}

func TestP1202TakeAtTheEnd(t *testing.T) {
	s := sender(t, top-1)
	takes(t, s, top-1)
	hasNext(t, "ahead of the last one", s, top)
	takes(t, s, top)
	for range 3 {
		hasNext(t, "behind the last one", s, 0)
		n, err := s.Take()
		refused(t, "Take of a spent one", err, api.ErrSpent)
		if n != 0 {
			t.Fatalf("Take of a spent one: %d", n)
		}
	}
}

func TestP1202MadeSpent(t *testing.T) {
	s := sender(t, 0)
	_, err := s.Take()
	refused(t, "Take", err, api.ErrSpent)
	hasNext(t, "behind Take", s, 0)
}

func TestP1203Back(t *testing.T) {
	for _, x := range []struct{ n, e, next int }{
		{2, 1, 2}, {1, 2, 3}, {1, top, 0}, {top, 1, 2}, {top, top - 1, top}, {top - 1, top, 0},
		{5, 77, 78}, {77, 5, 6}, {1, top - 1, top},
	} {
		for _, first := range []int{0, 1, x.n, x.e, 500, top} {
			s := sender(t, first)
			n, err := s.Back(x.n, x.e)
			if n != x.e || err != nil {
				t.Fatalf("Back(%d, %d) = %d, %v", x.n, x.e, n, err)
			}
			hasNext(t, "behind Back", s, x.next)
		}
	}
}

func TestP1203BackRefused(t *testing.T) {
	for _, first := range []int{0, 1, 2, 5, 77, top} {
		s := sender(t, first)
		for _, n := range someInts() {
			for _, e := range someInts() {
				_, _, want := modelSender{first}.back(n, e)
				if want == 0 {
					continue
				}
				got, err := s.Back(n, e)
				refused(t, "Back", err, want)
				if got != 0 {
					t.Fatalf("Back(%d, %d) = %d beside %v", n, e, got, err)
				}
				hasNext(t, "behind a refused Back", s, first)
			}
		}
	}
}

func TestP1203RangeComesAheadOfSame(t *testing.T) {
	s := sender(t, 3)
	for _, n := range []int{-1, 0, top + 1} {
		_, err := s.Back(n, n)
		refused(t, "Back of one that is no number twice", err, api.ErrRange)
	}
	for _, n := range []int{1, 3, top} {
		_, err := s.Back(n, n)
		refused(t, "Back of a number twice", err, api.ErrSame)
	}
	for _, n := range []int{-1, 0, top + 1} {
		_, err := s.Back(n, 3)
		refused(t, "Back from no number", err, api.ErrRange)
		_, err = s.Back(3, n)
		refused(t, "Back to no number", err, api.ErrRange)
	}
	hasNext(t, "behind all of them", s, 3)
}

func TestP1203TakeBehindBack(t *testing.T) {
	s := sender(t, 9)
	if _, err := s.Back(8, 3); err != nil {
		t.Fatal(err)
	}
	takes(t, s, 4)
	if _, err := s.Back(4, top); err != nil {
		t.Fatal(err)
	}
	_, err := s.Take()
	refused(t, "Take behind Back to the last number", err, api.ErrSpent)
	if _, err := s.Back(top, 1); err != nil {
		t.Fatal(err)
	}
	takes(t, s, 2)
}

func TestP1204Set(t *testing.T) {
	for _, first := range []int{0, 1, 5, top} {
		for _, next := range someInts() {
			s := sender(t, first)
			err := s.Set(next)
			m, want := modelSender{first}.set(next)
			if want == 0 && err != nil {
				t.Fatalf("Set(%d): %v", next, err)
			}
			if want != 0 {
				refused(t, "Set", err, api.ErrRange)
			}
			hasNext(t, "behind Set", s, m.next)
		}
	}
}

func TestP1204SetOfASpentSender(t *testing.T) {
	s := sender(t, top)
	takes(t, s, top)
	refused(t, "Set beyond the bound", s.Set(top+1), api.ErrRange)
	hasNext(t, "behind a refused Set", s, 0)
	if err := s.Set(5); err != nil {
		t.Fatal(err)
	}
	takes(t, s, 5)
	if err := s.Set(0); err != nil {
		t.Fatal(err)
	}
	_, err := s.Take()
	refused(t, "Take behind Set(0)", err, api.ErrSpent)
}
