package seq

import (
	"errors"
	"math"
	"testing"

	"courier/api"
)

const top = 2147483647

// someInts are the bounds of all that the chapter names, and what stands beside them.
func someInts() []int {
	return []int{
		math.MinInt, math.MinInt + 1, -top - 2, -top - 1, -top, -2, -1, 0, 1, 2, 3, 4, 5, 76, 77, 78,
		top - 2, top - 1, top, top + 1, top + 2, 1<<32 + 1, 1<<32 + 77, math.MaxInt - 1, math.MaxInt,
	}
}

// refused: the error is this layer's Fault with that number, at 0, and nothing under it.
func refused(t *testing.T, what string, err error, code api.Errno) {
	t.Helper()
	var f *api.Fault
	if !errors.As(err, &f) {
		t.Fatalf("%s: %v, want number %d", what, err, code)
	}
	if f.Layer != "seq" || f.At != 0 || f.Code != code || f.Under != nil || !errors.Is(err, code) {
		t.Fatalf("%s: %+v, want number %d", what, *f, code)
	}
}

// numberOf tells an error's number; 0: there is none.
func numberOf(err error) api.Errno {
	var f *api.Fault
	if errors.As(err, &f) {
		return f.Code
	}
	return 0
}

// The chapter's two counters a second time, as plain values and calls that answer the next one.

type modelSender struct{ next int }

func isModelNumber(n int) bool { return n > 0 && n < top+1 }

func (m modelSender) take() (modelSender, int, api.Errno) {
	switch m.next {
	case 0:
		return m, 0, api.ErrSpent
	case top:
		return modelSender{0}, top, 0
	}
	return modelSender{m.next + 1}, m.next, 0
}

func (m modelSender) back(n, e int) (modelSender, int, api.Errno) {
	if !isModelNumber(n) || !isModelNumber(e) {
		return m, 0, api.ErrRange
	}
	if n == e {
		return m, 0, api.ErrSame
	}
	after, _, _ := modelSender{e}.take()
	return after, e, 0
}

func (m modelSender) set(next int) (modelSender, api.Errno) {
	if next != 0 && !isModelNumber(next) {
		return m, api.ErrRange
	}
	return modelSender{next}, 0
}

type modelReceiver struct{ expects, last int }

// modelMade follows the words of P1205 one by one.
func modelMade(expects, last int) bool {
	switch {
	case expects < 0 || expects > top+1:
		return false
	case last < 0 || last > top:
		return false
	case expects != 0 && last != 0 && last != expects-1:
		return false
	case expects == 0 && last != 0:
		return false
	case expects == top+1 && last != top:
		return false
	}
	return true
}

func (m modelReceiver) judge(n int) api.SeqKind {
	if n == 0 {
		return api.SeqProbe
	}
	if n == -1 {
		return api.SeqReset
	}
	if isModelNumber(n) && (m.expects == 0 || m.expects == n) {
		return api.SeqRight
	}
	if m.last == n {
		return api.SeqAgain
	}
	return api.SeqOther
}

func (m modelReceiver) accept(n int) (modelReceiver, api.Errno) {
	if m.judge(n) != api.SeqRight {
		return m, api.ErrRange
	}
	return modelReceiver{n + 1, n}, 0
}

func (m modelReceiver) tell() int {
	if isModelNumber(m.expects) {
		return m.expects
	}
	return 0
}

func sender(t *testing.T, next int) *Sender {
	t.Helper()
	s, err := NewSender(next)
	if s == nil || err != nil {
		t.Fatalf("NewSender(%d) = %v, %v", next, s, err)
	}
	return s
}

func receiver(t *testing.T, expects, last int) *Receiver {
	t.Helper()
	r, err := NewReceiver(expects, last)
	if r == nil || err != nil {
		t.Fatalf("NewReceiver(%d, %d) = %v, %v", expects, last, r, err)
	}
	return r
}

func takes(t *testing.T, s *Sender, want int) {
	t.Helper()
	if n, err := s.Take(); n != want || err != nil {
		t.Fatalf("Take() = %d, %v; want %d", n, err, want)
	}
}

func hasNext(t *testing.T, what string, s *Sender, want int) {
	t.Helper()
	if n := s.Next(); n != want {
		t.Fatalf("%s: Next() = %d, want %d", what, n, want)
	}
}

// stands: all that a receiver tells of itself is as the model says.
func stands(t *testing.T, what string, r *Receiver, m modelReceiver) {
	t.Helper()
	if r.Expects() != m.expects || r.Last() != m.last || r.Tell() != m.tell() {
		t.Fatalf("%s: Expects %d, Last %d, Tell %d; want %d, %d, %d", what, r.Expects(), r.Last(), r.Tell(), m.expects, m.last, m.tell())
	}
}

func accepts(t *testing.T, r *Receiver, n int) {
	t.Helper()
	if err := r.Accept(n); err != nil {
		t.Fatalf("Accept(%d): %v", n, err)
	}
}

func judges(t *testing.T, r *Receiver, n int, want api.SeqKind) {
	t.Helper()
	if got := r.Judge(n); got != want {
		t.Fatalf("Judge(%d) of %d, %d = %d, want %d", n, r.Expects(), r.Last(), got, want)
	}
}

// receiverPairs are all that a receiver may be made of, at the edges and between.
func receiverPairs() []modelReceiver {
	return []modelReceiver{
		{0, 0}, {1, 0}, {2, 0}, {2, 1}, {3, 2}, {5, 0}, {5, 4}, {77, 0}, {78, 77},
		{top - 1, 0}, {top - 1, top - 2}, {top, 0}, {top, top - 1}, {top + 1, top},
	}
}
