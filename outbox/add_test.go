package outbox

import (
	"bytes"
	"slices"
	"strings"
	"testing"

	"courier/api"
)

// someIDs are control ids of all lengths around the bound, and every byte in several places of them.
func someIDs() []string {
	var list []string
	for n := range 40 {
		list = append(list, strings.Repeat("x", n))
	}
	for c := range 256 {
		b := string([]byte{byte(c)})
		list = append(list, b, "Q"+b, b+"Q", "Q"+b+"Q", strings.Repeat("q", 17)+b, b+strings.Repeat("q", 17), strings.Repeat("q", 18)+b)
	}
	return append(list, "\u00e9", "\u4e16", "A1\n", "\nA1", "A1\x00", "..", "--", "-1", "0", strings.Repeat("x", 1<<16))
}

func TestP1402ControlIDs(t *testing.T) {
	for _, sequenced := range kinds() {
		for _, id := range someIDs() {
			b, m := both(t, outs(1), sequenced, 2)
			adds(t, b, m, id, []byte("t"), always)
		}
	}
}

func TestP1402Texts(t *testing.T) {
	for _, sequenced := range kinds() {
		b, m := both(t, nil, sequenced, 2)
		for i, n := range []int{0, 1, 2, 8191, 8192, 8193, 8194, 16384, 1 << 16} {
			adds(t, b, m, name(i), bytes.Repeat([]byte{0}, n), always)
		}
		adds(t, b, m, "nil", nil, always)
		adds(t, b, m, "empty", []byte{}, always)
		if b.Len() != 4 {
			t.Fatalf("%d texts are taken, want 4", b.Len())
		}
	}
}

func TestP1402Conditions(t *testing.T) {
	for _, sequenced := range kinds() {
		b, m := both(t, nil, sequenced, 2)
		for i, c := range rightConditions() {
			adds(t, b, m, name(i), []byte("t"), c)
		}
		if b.Len() != 17 {
			t.Fatalf("%d conditions are taken, want 17", b.Len())
		}
		for _, c := range wrongConditions() {
			adds(t, b, m, "wrong", []byte("t"), c)
		}
		if b.Len() != 17 {
			t.Fatalf("wrong conditions are taken")
		}
	}
}

func TestP1402RefusalsInTheirOrder(t *testing.T) {
	for _, sequenced := range kinds() {
		for set := range 1 << 5 {
			n := 3
			control, text, c := "new", []byte("t"), always
			var want api.Errno
			if set&16 != 0 {
				c, want = api.Conditions{App: 3}, api.ErrCond
			}
			if set&8 != 0 {
				text, want = make([]byte, 8193*(set>>4)), api.ErrLong
			}
			if set&4 != 0 {
				control, want = name(1), api.ErrTwice
			}
			if set&2 != 0 {
				control, want = "A_1", api.ErrControl
			}
			if set&1 != 0 {
				n, want = most, api.ErrFull
			}
			b, m := both(t, outs(n), sequenced, 2)
			agrees(t, "Add", b.Add(control, text, c), want)
			if got := m.add(control, text, c); got != want {
				t.Fatalf("the model: %d, want %d", got, want)
			}
			stands(t, "Add", b, m)
		}
	}
}

func TestP1402AControlIDThatIsThere(t *testing.T) {
	for _, sequenced := range kinds() {
		b, m := both(t, outs(31), sequenced, 0)
		for i := range 31 {
			adds(t, b, m, name(i), []byte("another"), always)
			adds(t, b, m, strings.ToLower(name(i))+"-", []byte("t"), always)
			if b.Len() != 32 {
				t.Fatalf("%d", b.Len())
			}
			b, m = both(t, outs(31), sequenced, 0)
		}
		// Under way it is there still; behind its end it is not.
		gives(t, b, m, 3)
		goes(t, b, m)
		adds(t, b, m, name(0), []byte("t"), always)
		isDue(t, b, m, name(0))
		adds(t, b, m, name(0), []byte("t"), always)
		if l := b.List(); len(l) != 31 || l[30].Control != name(0) || l[30].Under || l[30].Number != 0 {
			t.Fatalf("%v", l)
		}
	}
}

func TestP1402UpToTheBound(t *testing.T) {
	for _, sequenced := range kinds() {
		b, m := both(t, nil, sequenced, 0)
		for i := range 40 {
			adds(t, b, m, name(i), []byte("t"), always)
		}
		if b.Len() != 32 {
			t.Fatalf("Len %d", b.Len())
		}
		gives(t, b, m, 1)
		goes(t, b, m)
		adds(t, b, m, "more", []byte("t"), always)
		isDue(t, b, m, name(0))
		adds(t, b, m, "more", []byte("t"), always)
		adds(t, b, m, "evenmore", []byte("t"), always)
		if i := slices.IndexFunc(b.List(), func(s api.Sent) bool { return s.Control == "more" }); i != 31 {
			t.Fatalf("the last one stands at %d", i)
		}
	}
}

func TestP1402WhatIsAddedStandsPlain(t *testing.T) {
	for _, sequenced := range kinds() {
		b, m := both(t, nil, sequenced, 3)
		for i, c := range rightConditions() {
			adds(t, b, m, name(i), []byte{byte(i)}, c)
			s, err := b.Get(name(i))
			if err != nil || s.Number != 0 || s.Noted || s.Under || s.Want != (api.Want{}) || s.Cond != c || !bytes.Equal(s.Text, []byte{byte(i)}) {
				t.Fatalf("%v, %v", s, err)
			}
			gives(t, b, m, 5)
			goes(t, b, m)
		}
	}
}
