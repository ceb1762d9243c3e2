package outbox

import (
	"testing"

	"courier/api"
)

// The chapter's four examples.

func boxOf(t *testing.T, sequenced bool, tries int, c api.Conditions, ids ...string) *Box {
	t.Helper()
	b := load(t, nil, sequenced, tries)
	for _, id := range ids {
		if err := b.Add(id, []byte("t"), c); err != nil {
			t.Fatal(err)
		}
	}
	return b
}

func isNext(t *testing.T, b *Box, control string, number int) {
	t.Helper()
	if o, ok := b.Next(); !ok || o.Control != control || o.Number != number {
		t.Fatalf("Next() = %v, %v; want %s, %d", o, ok, control, number)
	}
}

func TestP1407Example1(t *testing.T) {
	b := boxOf(t, false, 1, always, "A1", "A2")
	isNext(t, b, "A1", 0)
	l, err := b.Go()
	did(t, "Go", l, err, "A1 Send, A1 Timer")
	isNext(t, b, "A2", 0)
	l, err = b.Heard("A1", "CA", 0)
	did(t, "CA", l, err, "A1 Note")
	if s, err := b.Get("A1"); err != nil || !s.Noted || !s.Under || s.Want != (api.Want{State: api.WantApp, Left: 1}) {
		t.Errorf("Get: %v, %v", s, err)
	}
	l, err = b.Due("A1")
	did(t, "Due", l, err, "A1 Send, A1 Timer")
	l, err = b.Due("A1")
	did(t, "Due", l, err, "A1 Final")
	if b.Len() != 1 {
		t.Errorf("Len %d", b.Len())
	}
	_, err = b.Heard("A1", "AA", 0)
	refused(t, "A1 is over", err, api.ErrUnknown, 0)
	_, err = b.Heard("A2", "CA", 0)
	refused(t, "A2 is not under way", err, api.ErrState, 0)
}

func TestP1406Example2(t *testing.T) {
	b := boxOf(t, true, 1, always, "A1", "A2")
	_, err := b.Go()
	refused(t, "no number", err, api.ErrState, 0)
	if err := b.Give(7); err != nil {
		t.Fatal(err)
	}
	l, err := b.Go()
	did(t, "Go", l, err, "A1 Send, A1 Timer")
	if o, ok := b.Next(); ok {
		t.Errorf("Next: %v", o)
	}
	refused(t, "Give", b.Give(8), api.ErrState, 0)
	l, err = b.Heard("A1", "CE", 9)
	did(t, "CE, 9", l, err, "A1 Number, A1 Send, A1 Timer")
	if s, err := b.Get("A1"); err != nil || s.Number != 9 || s.Left != 0 {
		t.Errorf("Get: %v, %v", s, err)
	}
	l, err = b.Heard("A1", "CE", 9)
	did(t, "CE, 9 again", l, err, "A1 Strange")
	l, err = b.Heard("A1", "CE", 4)
	did(t, "CE, 4", l, err, "A1 Final CE")
	isNext(t, b, "A2", 0)
}

func TestP1405Example3(t *testing.T) {
	b := boxOf(t, false, 1, enhanced(0, 0), "A1")
	l, err := b.Go()
	did(t, "Go", l, err, "A1 Send, A1 Final")
	if b.Len() != 0 {
		t.Errorf("Len %d", b.Len())
	}
}

func TestP1401Example4(t *testing.T) {
	one := func(id string, n int) api.Out {
		return api.Out{Control: id, Text: []byte("t"), Cond: always, Number: n}
	}
	_, err := Load([]api.Out{one("A1", 0), one("A1", 0)}, false, 1)
	refused(t, "A1 twice", err, api.ErrTwice, 1)
	_, err = Load([]api.Out{one("A1", 3)}, false, 1)
	refused(t, "a number, not sequenced", err, api.ErrGiven, 0)
	_, err = Load([]api.Out{one("A1", 0), one("A2", 3)}, true, 1)
	refused(t, "a number behind the head", err, api.ErrGiven, 1)
	_, err = Load(outs(33), false, 1)
	refused(t, "33", err, api.ErrFull, 0)
	b := load(t, nil, false, 1)
	refused(t, "A 1", b.Add("A 1", []byte("t"), always), api.ErrControl, 0)
	refused(t, "no text", b.Add("A1", nil, always), api.ErrLong, 0)
}
