package seq

import (
	"math/rand"
	"testing"

	"courier/api"
)

// pick gives an int of those that matter: the edges, or near to where a counter stands.
func pick(g *rand.Rand, near int) int {
	if l := someInts(); g.Intn(2) == 0 {
		return l[g.Intn(len(l))]
	}
	return near + g.Intn(5) - 2
}

func senderStep(t *testing.T, g *rand.Rand, s *Sender, m modelSender) modelSender {
	t.Helper()
	var got, want int
	var err error
	var code api.Errno
	switch g.Intn(6) {
	case 0:
		n, e := pick(g, m.next), pick(g, m.next)
		got, err = s.Back(n, e)
		m, want, code = m.back(n, e)
	case 1:
		next := pick(g, m.next)
		err = s.Set(next)
		m, code = m.set(next)
	default:
		got, err = s.Take()
		m, want, code = m.take()
	}
	if got != want || numberOf(err) != code || (err == nil) != (code == 0) {
		t.Fatalf("%d, %v; want %d, number %d", got, err, want, code)
	}
	hasNext(t, "in a run", s, m.next)
	return m
}

func receiverStep(t *testing.T, g *rand.Rand, r *Receiver, m modelReceiver) modelReceiver {
	t.Helper()
	switch n := pick(g, m.expects); g.Intn(8) {
	case 0:
		if err := r.Reset(); err != nil {
			t.Fatal(err)
		}
		m = modelReceiver{}
	case 1, 2:
		judges(t, r, n, m.judge(n))
	case 3:
		after, code := m.accept(n)
		if err := r.Accept(n); numberOf(err) != code || (err == nil) != (code == 0) {
			t.Fatalf("Accept(%d) of %v: %v, want number %d", n, m, err, code)
		}
		m = after
	default:
		after, code := m.accept(m.expects)
		if err := r.Accept(m.expects); numberOf(err) != code || (err == nil) != (code == 0) {
			t.Fatalf("Accept of what is expected, %v: %v, want number %d", m, err, code)
		}
		m = after
	}
	stands(t, "in a run", r, m)
	return m
}

func TestP1210SendersAnswerAsTheModel(t *testing.T) {
	g := rand.New(rand.NewSource(1210))
	for range 2000 {
		m := modelSender{[]int{0, 1, 2, 77, top - 3, top}[g.Intn(6)]}
		s := sender(t, m.next)
		for range 60 {
			m = senderStep(t, g, s, m)
		}
	}
}

func TestP1210ReceiversAnswerAsTheModel(t *testing.T) {
	g := rand.New(rand.NewSource(1211))
	for range 2000 {
		m := receiverPairs()[g.Intn(len(receiverPairs()))]
		r := receiver(t, m.expects, m.last)
		for range 60 {
			m = receiverStep(t, g, r, m)
		}
	}
}

func TestP1210TakenNumbersAreConsecutive(t *testing.T) {
	g := rand.New(rand.NewSource(1212))
	s := sender(t, 1)
	taken, seen := 0, map[int]int{}
	for range 20000 {
		switch near := pick(g, s.Next()); g.Intn(12) {
		case 0:
			if _, err := s.Back(near, pick(g, near)); err == nil {
				taken, seen = 0, map[int]int{}
			}
		case 1:
			if s.Set(near) == nil {
				taken, seen = 0, map[int]int{}
			}
		default:
			n, err := s.Take()
			if err != nil {
				continue
			}
			if taken != 0 && n != taken+1 || seen[n] != 0 {
				t.Fatalf("%d is taken behind %d", n, taken)
			}
			taken = n
			seen[n]++
		}
	}
}

func TestP1210AcceptedNumbersAreConsecutive(t *testing.T) {
	g := rand.New(rand.NewSource(1213))
	r := receiver(t, 1, 0)
	accepted := 0
	for range 20000 {
		if g.Intn(40) == 0 {
			if err := r.Reset(); err != nil {
				t.Fatal(err)
			}
			accepted = 0
			continue
		}
		n := pick(g, r.Expects())
		if r.Accept(n) != nil {
			continue
		}
		if accepted != 0 && n != accepted+1 {
			t.Fatalf("%d is accepted behind %d", n, accepted)
		}
		accepted = n
	}
}

func TestP1210ASenderMadeAnew(t *testing.T) {
	g := rand.New(rand.NewSource(1214))
	for range 500 {
		m := modelSender{[]int{0, 1, 77, top - 3, top}[g.Intn(5)]}
		s := sender(t, m.next)
		for range 40 {
			m = senderStep(t, g, s, m)
			if g.Intn(4) == 0 {
				s = sender(t, s.Next())
				hasNext(t, "made anew", s, m.next)
			}
		}
	}
}

func TestP1210AReceiverMadeAnew(t *testing.T) {
	g := rand.New(rand.NewSource(1215))
	for range 500 {
		m := receiverPairs()[g.Intn(len(receiverPairs()))]
		r := receiver(t, m.expects, m.last)
		for range 40 {
			m = receiverStep(t, g, r, m)
			if g.Intn(4) == 0 {
				r = receiver(t, r.Expects(), r.Last())
				stands(t, "made anew", r, m)
			}
		}
	}
}

func TestP1211CountersInTurns(t *testing.T) {
	g := rand.New(rand.NewSource(1216))
	senders := []*Sender{sender(t, 1), sender(t, 1), sender(t, top-3)}
	numbers := []modelSender{{1}, {1}, {top - 3}}
	receivers := []*Receiver{receiver(t, 1, 0), receiver(t, 1, 0), receiver(t, 0, 0)}
	places := []modelReceiver{{1, 0}, {1, 0}, {0, 0}}
	for range 20000 {
		i := g.Intn(3)
		if g.Intn(2) == 0 {
			numbers[i] = senderStep(t, g, senders[i], numbers[i])
		} else {
			places[i] = receiverStep(t, g, receivers[i], places[i])
		}
		for j := range 3 {
			hasNext(t, "in turns", senders[j], numbers[j].next)
			stands(t, "in turns", receivers[j], places[j])
		}
	}
}
