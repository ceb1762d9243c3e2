package seq

import (
	"testing"

	"courier/api"
)

// The chapter's six examples, word by word.

func TestP1203Example1(t *testing.T) {
	s := sender(t, 1)
	takes(t, s, 1)
	takes(t, s, 2)
	hasNext(t, "behind two", s, 3)
	_, err := s.Back(2, 2)
	refused(t, "Back(2, 2)", err, api.ErrSame)
	if n, err := s.Back(2, 1); n != 1 || err != nil {
		t.Errorf("Back(2, 1) = %d, %v", n, err)
	}
	hasNext(t, "behind Back(2, 1)", s, 2)
	_, err = s.Back(0, 1)
	refused(t, "Back(0, 1)", err, api.ErrRange)
}

func TestP1202Example2(t *testing.T) {
	s := sender(t, 2147483647)
	takes(t, s, 2147483647)
	hasNext(t, "behind the last one", s, 0)
	_, err := s.Take()
	refused(t, "Take", err, api.ErrSpent)
	if err := s.Set(5); err != nil {
		t.Error(err)
	}
	takes(t, s, 5)
}

func TestP1206Example3(t *testing.T) {
	r := receiver(t, 1, 0)
	judges(t, r, 1, api.SeqRight)
	judges(t, r, 2, api.SeqOther)
	judges(t, r, 0, api.SeqProbe)
	judges(t, r, -1, api.SeqReset)
	judges(t, r, -2, api.SeqOther)
	accepts(t, r, 1)
	judges(t, r, 1, api.SeqAgain)
	judges(t, r, 2, api.SeqRight)
	refused(t, "Accept(1)", r.Accept(1), api.ErrRange)
}

func TestP1208Example4(t *testing.T) {
	r := receiver(t, 2, 1)
	if err := r.Reset(); err != nil {
		t.Fatal(err)
	}
	stands(t, "behind Reset", r, modelReceiver{0, 0})
	judges(t, r, 1, api.SeqRight)
	judges(t, r, 77, api.SeqRight)
	accepts(t, r, 77)
	stands(t, "behind Accept(77)", r, modelReceiver{78, 77})
}

func TestP1206Example5(t *testing.T) {
	r := receiver(t, 2147483648, 2147483647)
	judges(t, r, 2147483647, api.SeqAgain)
	for _, n := range []int{1, 2, 77, 2147483646, 2147483648, 2147483649} {
		judges(t, r, n, api.SeqOther)
	}
	if n := r.Tell(); n != 0 {
		t.Errorf("Tell() = %d", n)
	}
}

func TestP1205Example6(t *testing.T) {
	for _, x := range [][2]int{{5, 3}, {0, 3}, {2147483648, 0}, {-1, 0}} {
		_, err := NewReceiver(x[0], x[1])
		refused(t, "NewReceiver", err, api.ErrRange)
	}
	receiver(t, 5, 0)
	receiver(t, 5, 4)
}
