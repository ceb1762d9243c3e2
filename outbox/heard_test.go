package outbox

import (
	"testing"

	"courier/api"
)

// someExpects are those that an answer may tell of a message with the number 5, and around them those that may not.
func someExpects() []int { return append([]int{0, 1, 4, 5, 6, top - 1, top}, wrongNumbers()...) }

// trail leads a message to where it is looked at.
type trail struct {
	tries int
	noted bool
	steps []string // codes, or "due"
}

func trails() []trail {
	return []trail{
		{0, false, nil}, {1, false, nil}, {3, false, nil}, {16, false, nil},
		{0, true, nil}, {2, true, nil},
		{0, false, []string{"CA"}}, {2, false, []string{"CA"}}, {2, false, []string{"CA", "due"}},
		{1, false, []string{"due"}}, {2, false, []string{"due"}}, {2, false, []string{"due", "CA", "due"}},
	}
}

// led gives a box whose first message has gone that way, with the number 5, if the box is sequenced; false: it is over.
func led(t *testing.T, sequenced bool, c api.Conditions, w trail) (*Box, *model, bool) {
	t.Helper()
	list := outs(3)
	list[0].Cond, list[0].Noted = c, w.noted
	if sequenced {
		list[0].Number = 5
	}
	b, m := both(t, list, sequenced, w.tries)
	goes(t, b, m)
	for _, s := range w.steps {
		if b.Len() < 3 {
			break
		}
		if s == "due" {
			isDue(t, b, m, name(0))
		} else {
			hears(t, b, m, name(0), s, 0)
		}
	}
	return b, m, b.Len() == 3
}

func eachTrail(t *testing.T, look func(sequenced bool, c api.Conditions, w trail)) {
	t.Helper()
	for _, sequenced := range kinds() {
		for _, c := range rightConditions() {
			for _, w := range trails() {
				if !w.noted || commits(c) {
					look(sequenced, c, w)
				}
			}
		}
	}
}

func TestP1406EveryCodeWithEachExpect(t *testing.T) {
	eachTrail(t, func(sequenced bool, c api.Conditions, w trail) {
		for _, code := range allCodes() {
			for _, expect := range someExpects() {
				b, m, ok := led(t, sequenced, c, w)
				if !ok {
					return
				}
				hears(t, b, m, name(0), code, expect)
				hears(t, b, m, name(0), code, expect)
			}
		}
	})
}

func TestP1406WrongExpects(t *testing.T) {
	for _, sequenced := range kinds() {
		b, m, _ := led(t, sequenced, always, trail{tries: 2})
		for _, expect := range wrongNumbers() {
			for _, code := range allCodes() {
				_, err := b.Heard(name(0), code, expect)
				refused(t, "expect", err, api.ErrGiven, 0)
				// Whose message it is comes first.
				_, err = b.Heard("B", code, expect)
				refused(t, "unknown", err, api.ErrUnknown, 0)
			}
			stands(t, "refused", b, m)
		}
		b, m = both(t, outs(2), sequenced, 2)
		for _, expect := range someExpects() {
			for _, code := range allCodes() {
				_, err := b.Heard(name(1), code, expect)
				refused(t, "not under way", err, api.ErrState, 0)
			}
		}
		stands(t, "refused", b, m)
	}
}

func TestP1406IDsThatAreNotThere(t *testing.T) {
	for _, sequenced := range kinds() {
		b, m, _ := led(t, sequenced, always, trail{tries: 2})
		for _, id := range []string{"", "A", "a0", "A0 ", " A0", "A00", "A3", "A0\x00", "A0A1", string(make([]byte, 1<<12))} {
			if l := hears(t, b, m, id, "CA", 0); len(l) > 0 {
				t.Fatalf("deeds of %q", id)
			}
			_, err := b.Heard(id, "CA", 0)
			refused(t, "Heard", err, api.ErrUnknown, 0)
			_, err = b.Due(id)
			refused(t, "Due", err, api.ErrUnknown, 0)
			s, err := b.Get(id)
			refused(t, "Get", err, api.ErrUnknown, 0)
			if s.Control != "" || s.Text != nil || s.Under {
				t.Fatalf("Get(%q) = %v", id, s)
			}
		}
		stands(t, "refused", b, m)
	}
}

func TestP1406TheMessagesOwnNumber(t *testing.T) {
	for _, n := range []int{1, 5, top} {
		for _, code := range []string{"CE", "AE"} {
			list := outs(1)
			list[0].Number = n
			b, m := both(t, list, true, 3)
			goes(t, b, m)
			for range 5 {
				did(t, "its own", hears(t, b, m, name(0), code, n), nil, "A0 Strange")
			}
			other := n%top + 1
			did(t, "another", hears(t, b, m, name(0), code, other), nil, "A0 Number, A0 Send, A0 Timer")
			did(t, "its own now", hears(t, b, m, name(0), code, other), nil, "A0 Strange")
			if s, _ := b.Get(name(0)); s.Number != other || s.Left != 2 {
				t.Fatalf("%v", s)
			}
			// The former number is another one by now.
			did(t, "the former", hears(t, b, m, name(0), code, n), nil, "A0 Number, A0 Send, A0 Timer")
			did(t, "none", hears(t, b, m, name(0), code, 0), nil, "A0 Final "+code)
		}
	}
}

func TestP1406ItsOwnNumberBesideOtherCodes(t *testing.T) {
	for _, c := range []struct{ code, want string }{
		{"CA", "A0 Note"}, {"CR", "A0 Final CR"}, {"AA", "A0 Final AA"}, {"AR", "A0 Final AR"}, {"XX", "A0 Strange"},
	} {
		for _, expect := range []int{0, 1, 5, top} {
			b, m, _ := led(t, true, always, trail{tries: 2})
			did(t, c.code, hears(t, b, m, name(0), c.code, expect), nil, c.want)
		}
	}
}

func TestP1406APlainBoxTakesNoNumber(t *testing.T) {
	for _, code := range []string{"CE", "AE"} {
		for _, expect := range []int{0, 1, 5, top} {
			b, m, _ := led(t, false, always, trail{tries: 2})
			did(t, code, hears(t, b, m, name(0), code, expect), nil, "A0 Final "+code)
		}
	}
}

func TestP1406NumbersTillNoTryIsLeft(t *testing.T) {
	for tries := range 17 {
		b, m, _ := led(t, true, api.Conditions{}, trail{tries: tries})
		for i := range tries {
			did(t, "AE", hears(t, b, m, name(0), "AE", 100+i), nil, "A0 Number, A0 Send, A0 Timer")
		}
		did(t, "AE", hears(t, b, m, name(0), "AE", 99), nil, "A0 Final AE")
		isNext(t, b, name(1), 0)
	}
}

func TestP1406BehindTheCommitANumberIsOld(t *testing.T) {
	for _, w := range []trail{{2, false, []string{"CA"}}, {2, true, nil}} {
		b, m, _ := led(t, true, always, w)
		for _, code := range []string{"CE", "AE"} {
			did(t, code, hears(t, b, m, name(0), code, 9), nil, "A0 Strange")
		}
		if s, _ := b.Get(name(0)); s.Number != 5 || !s.Noted {
			t.Fatalf("%v", s)
		}
	}
}

func TestP1406OthersOfABoxStay(t *testing.T) {
	b, m := both(t, outs(4), false, 1)
	for range 3 {
		goes(t, b, m)
	}
	did(t, "CA", hears(t, b, m, "A1", "CA", 0), nil, "A1 Note")
	did(t, "AR", hears(t, b, m, "A0", "AR", 0), nil, "A0 Final AR")
	did(t, "CA", hears(t, b, m, "A1", "CA", 0), nil, "")
	did(t, "CE", hears(t, b, m, "A2", "CE", 0), nil, "A2 Final CE")
	did(t, "AA", hears(t, b, m, "A1", "AA", 0), nil, "A1 Final AA")
	isNext(t, b, "A3", 0)
}

func TestP1407DueOnEachTrail(t *testing.T) {
	eachTrail(t, func(sequenced bool, c api.Conditions, w trail) {
		b, m, ok := led(t, sequenced, c, w)
		for n := 0; ok && b.Len() == 3; n++ {
			isDue(t, b, m, name(0))
			if n > w.tries {
				t.Fatalf("%v, %v: it is not over behind %d", c, w, n)
			}
		}
		isDue(t, b, m, name(0))
	})
}

func TestP1407DueTillTheTriesAreSpent(t *testing.T) {
	for _, sequenced := range kinds() {
		for tries := range 17 {
			b, m, _ := led(t, sequenced, always, trail{tries: tries})
			for left := tries - 1; left >= 0; left-- {
				did(t, "Due", isDue(t, b, m, name(0)), nil, "A0 Send, A0 Timer")
				if s, err := b.Get(name(0)); err != nil || s.Want != (api.Want{State: api.WantCommit, Left: left}) {
					t.Fatalf("%v, %v; want %d left", s, err, left)
				}
			}
			did(t, "Due", isDue(t, b, m, name(0)), nil, "A0 Final")
			_, err := b.Due(name(0))
			refused(t, "over", err, api.ErrUnknown, 0)
			isNext(t, b, name(1), 0)
		}
	}
}

func TestP1407ListeningEndsWithItsFirstDue(t *testing.T) {
	for _, sequenced := range kinds() {
		b, m, _ := led(t, sequenced, enhanced(2, 0), trail{tries: 16})
		did(t, "Due", isDue(t, b, m, name(0)), nil, "A0 Final")
		b, m, _ = led(t, sequenced, enhanced(1, 2), trail{16, false, []string{"due"}})
		did(t, "CA", hears(t, b, m, name(0), "CA", 0), nil, "A0 Note, A0 Timer")
		did(t, "Due", isDue(t, b, m, name(0)), nil, "A0 Final")
	}
}

func TestP1407NotUnderWay(t *testing.T) {
	for _, sequenced := range kinds() {
		list := outs(2)
		list[0].Noted = true
		b, m := both(t, list, sequenced, 2)
		for i := range 2 {
			_, err := b.Due(name(i))
			refused(t, "Due", err, api.ErrState, 0)
		}
		stands(t, "refused", b, m)
	}
}
