package seq

import (
	"testing"

	"courier/api"
)

func TestP1205NewReceiver(t *testing.T) {
	for _, m := range receiverPairs() {
		stands(t, "a new receiver", receiver(t, m.expects, m.last), m)
	}
}

func TestP1205NewReceiverOutside(t *testing.T) {
	for _, x := range [][2]int{
		{-1, 0}, {top + 2, 0}, {top + 2, top}, {top + 2, top + 1}, {0, -1}, {1, -1}, {5, top + 1}, {top + 1, top + 1},
		{0, 1}, {0, 3}, {0, top}, {1, 1}, {5, 3}, {5, 5}, {5, 6}, {1, 2}, {2, top}, {top, top}, {top, top - 2},
		{top + 1, 0}, {top + 1, 1}, {top + 1, top - 1}, {-1, -2}, {-5, 0},
	} {
		r, err := NewReceiver(x[0], x[1])
		if r != nil {
			t.Errorf("NewReceiver(%d, %d): a receiver beside %v", x[0], x[1], err)
		}
		refused(t, "NewReceiver", err, api.ErrRange)
	}
}

func TestP1205AllPairs(t *testing.T) {
	for _, expects := range someInts() {
		for _, last := range someInts() {
			r, err := NewReceiver(expects, last)
			if !modelMade(expects, last) {
				if r != nil {
					t.Fatalf("NewReceiver(%d, %d): a receiver", expects, last)
				}
				refused(t, "NewReceiver", err, api.ErrRange)
				continue
			}
			if err != nil {
				t.Fatalf("NewReceiver(%d, %d): %v", expects, last, err)
			}
			stands(t, "a new receiver", r, modelReceiver{expects, last})
		}
	}
}

func TestP1205NotMade(t *testing.T) {
	var plain Receiver
	for what, r := range map[string]*Receiver{"nil": nil, "plain": &plain, "new": new(Receiver)} {
		for range 2 { // a call changes nothing
			stands(t, what, r, modelReceiver{})
			for _, n := range someInts() {
				judges(t, r, n, api.SeqNone)
				refused(t, what+": Accept", r.Accept(n), api.ErrZero)
			}
			refused(t, what+": Reset", r.Reset(), api.ErrZero)
		}
	}
}

func TestP1206Judge(t *testing.T) {
	for _, m := range receiverPairs() {
		r := receiver(t, m.expects, m.last)
		for _, n := range append(someInts(), m.expects, m.last, m.expects+1, m.last-1) {
			judges(t, r, n, m.judge(n))
			stands(t, "behind Judge", r, m)
		}
	}
}

func TestP1206OpenReceiver(t *testing.T) {
	r := receiver(t, 0, 0)
	for _, n := range []int{1, 2, 77, top - 1, top} {
		judges(t, r, n, api.SeqRight)
	}
	for _, n := range []int{-2, -top, top + 1, top + 2} {
		judges(t, r, n, api.SeqOther)
	}
	judges(t, r, 0, api.SeqProbe)
	judges(t, r, -1, api.SeqReset)
}

func TestP1206NothingAcceptedYet(t *testing.T) {
	r := receiver(t, 5, 0)
	for _, n := range []int{1, 4, 6, top} {
		judges(t, r, n, api.SeqOther)
	}
	judges(t, r, 5, api.SeqRight)
	judges(t, r, 0, api.SeqProbe)
}

func TestP1206LastIsAgain(t *testing.T) {
	r := receiver(t, 5, 4)
	judges(t, r, 4, api.SeqAgain)
	judges(t, r, 3, api.SeqOther)
	judges(t, r, 5, api.SeqRight)
	judges(t, r, 6, api.SeqOther)
}

func TestP1206NoneIsRightAnyMore(t *testing.T) {
	r := receiver(t, top+1, top)
	judges(t, r, top, api.SeqAgain)
	for _, n := range []int{1, 2, top - 1, top + 1, top + 2} {
		judges(t, r, n, api.SeqOther)
	}
	judges(t, r, 0, api.SeqProbe)
	judges(t, r, -1, api.SeqReset)
}

func TestP1207Accept(t *testing.T) {
	for _, m := range receiverPairs() {
		for _, n := range append(someInts(), m.expects, m.last, m.expects+1) {
			r := receiver(t, m.expects, m.last)
			after, want := m.accept(n)
			err := r.Accept(n)
			if want == 0 && err != nil {
				t.Fatalf("Accept(%d) of %v: %v", n, m, err)
			}
			if want != 0 {
				refused(t, "Accept", err, want)
			}
			stands(t, "behind Accept", r, after)
		}
	}
}

func TestP1207AcceptTheLastNumber(t *testing.T) {
	for _, m := range []modelReceiver{{0, 0}, {top, 0}, {top, top - 1}} {
		r := receiver(t, m.expects, m.last)
		accepts(t, r, top)
		stands(t, "behind the last number", r, modelReceiver{top + 1, top})
		for _, n := range []int{top, top + 1, top + 2, 1, 0, -1} {
			refused(t, "Accept behind the last number", r.Accept(n), api.ErrRange)
		}
		stands(t, "behind what is refused", r, modelReceiver{top + 1, top})
	}
}

func TestP1208Reset(t *testing.T) {
	for _, m := range receiverPairs() {
		r := receiver(t, m.expects, m.last)
		for range 2 {
			if err := r.Reset(); err != nil {
				t.Fatalf("Reset of %v: %v", m, err)
			}
			stands(t, "behind Reset", r, modelReceiver{})
			for _, n := range someInts() {
				judges(t, r, n, modelReceiver{}.judge(n))
			}
		}
		accepts(t, r, 77)
		stands(t, "behind Accept", r, modelReceiver{78, 77})
	}
}

func TestP1209Tell(t *testing.T) {
	for _, x := range []struct{ expects, last, tells int }{
		{0, 0, 0}, {1, 0, 1}, {5, 4, 5}, {top, 0, top}, {top, top - 1, top}, {top + 1, top, 0},
	} {
		if n := receiver(t, x.expects, x.last).Tell(); n != x.tells {
			t.Errorf("Tell of %d, %d = %d, want %d", x.expects, x.last, n, x.tells)
		}
	}
}
