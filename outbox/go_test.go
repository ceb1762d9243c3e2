package outbox

import (
	"strings"
	"testing"

	"courier/api"
)

func TestP1403NextOfAPlainBox(t *testing.T) {
	b, m := both(t, nil, false, 1)
	stands(t, "empty", b, m)
	for i := range 4 {
		adds(t, b, m, name(i), []byte("t"), always)
	}
	for i := range 4 {
		isNext(t, b, name(i), 0)
		goes(t, b, m)
	}
	if o, ok := b.Next(); ok {
		t.Fatalf("Next() = %v", o)
	}
	// One that comes behind those under way is next, also if one of them has left.
	adds(t, b, m, "late", []byte("t"), always)
	isNext(t, b, "late", 0)
	hears(t, b, m, name(2), "AA", 0)
	isNext(t, b, "late", 0)
	adds(t, b, m, name(2), []byte("t"), always)
	isNext(t, b, "late", 0)
	goes(t, b, m)
	isNext(t, b, name(2), 0)
}

func TestP1403NextOfASequencedBox(t *testing.T) {
	b, m := both(t, nil, true, 1)
	stands(t, "empty", b, m)
	for i := range 3 {
		adds(t, b, m, name(i), []byte("t"), always)
	}
	for i := range 3 {
		isNext(t, b, name(i), 0)
		gives(t, b, m, 10+i)
		isNext(t, b, name(i), 10+i)
		goes(t, b, m)
		if o, ok := b.Next(); ok {
			t.Fatalf("Next() = %v while the head is under way", o)
		}
		hears(t, b, m, name(i), "CA", 0)
		if o, ok := b.Next(); ok {
			t.Fatalf("Next() = %v while the head is under way", o)
		}
		hears(t, b, m, name(i), "AA", 0)
	}
	stands(t, "empty again", b, m)
}

func TestP1403NextTellsTheWholeMessage(t *testing.T) {
	for _, sequenced := range kinds() {
		list := []api.Out{{Control: "A.-9", Text: []byte("MSH\x00\xff"), Cond: enhanced(3, 2), Noted: true}}
		if sequenced {
			list[0].Number = top
		}
		b, m := both(t, list, sequenced, 1)
		stands(t, "Next", b, m)
	}
}

// someNumbers are those that may be given, and around them those that may not.
func someNumbers() []int { return append([]int{0, 1, 2, 7, top - 1, top}, wrongNumbers()...) }

func TestP1404GiveInEachState(t *testing.T) {
	for _, n := range someNumbers() {
		code := api.OK
		if n < 1 || n > top {
			code = api.ErrGiven
		}
		b := load(t, nil, true, 1)
		refused(t, "empty", b.Give(n), api.ErrState, 0)
		refused(t, "not sequenced, empty", load(t, nil, false, 1).Give(n), api.ErrState, 0)
		refused(t, "not sequenced", load(t, outs(2), false, 1).Give(n), api.ErrState, 0)
		b = load(t, outs(2), true, 1)
		agrees(t, "no number", b.Give(n), code)
		list := outs(2)
		list[0].Number = 5
		b = load(t, list, true, 1)
		agrees(t, "a number", b.Give(n), code)
		if _, err := b.Go(); err != nil {
			t.Fatal(err)
		}
		refused(t, "under way", b.Give(n), api.ErrState, 0)
		if _, err := b.Heard(name(0), "CR", 0); err != nil {
			t.Fatal(err)
		}
		agrees(t, "the next head", b.Give(n), code)
	}
}

func TestP1404GiveAgain(t *testing.T) {
	b, m := both(t, outs(3), true, 1)
	for range 2 {
		for _, n := range someNumbers() {
			gives(t, b, m, n)
			gives(t, b, m, n)
		}
	}
	if l := b.List(); l[0].Number != top || l[1].Number != 0 || l[2].Number != 0 {
		t.Fatalf("%v", l)
	}
	gives(t, b, m, 1)
	goes(t, b, m)
	for _, n := range someNumbers() {
		gives(t, b, m, n)
	}
	plain, pm := both(t, outs(3), false, 1)
	for range 4 {
		for _, n := range someNumbers() {
			gives(t, plain, pm, n)
		}
		goes(t, plain, pm)
	}
}

// begun is what comes of a message's beginning, by chapter 11's table: the want's state (0: it is over) and the acts.
func begun(c api.Conditions, noted bool) (int, string) {
	words := "NE AL ER SU"
	word := func(n int) string { return strings.Fields(words)[n] }
	if !c.Enhanced {
		return api.WantApp, "Send Timer"
	}
	pair := word(c.Accept) + " " + word(c.App)
	switch pair {
	case "NE NE":
		return 0, "Send Final"
	case "NE AL", "NE SU", "ER AL", "ER SU":
		return api.WantApp, "Send Timer"
	case "NE ER", "ER NE", "ER ER":
		return api.WantListen, "Send Timer"
	}
	switch {
	case !noted:
		return api.WantCommit, "Send Timer"
	case word(c.App) == "NE":
		return 0, "Send Final CA"
	case word(c.App) == "ER":
		return api.WantListen, "Send Timer"
	}
	return api.WantApp, "Send Timer"
}

func TestP1405GoOfEachCondition(t *testing.T) {
	for _, sequenced := range kinds() {
		for _, c := range rightConditions() {
			for _, noted := range []bool{false, true} {
				for _, tries := range []int{0, 1, 16} {
					if noted && !commits(c) {
						continue
					}
					list := outs(2)
					list[0].Cond, list[0].Noted = c, noted
					b, m := both(t, list, sequenced, tries)
					if sequenced {
						goes(t, b, m)
						_, err := b.Go()
						refused(t, "no number", err, api.ErrState, 0)
						gives(t, b, m, 4)
					}
					state, acts := begun(c, noted)
					words := strings.SplitN(acts, " ", 2)
					did(t, "Go", goes(t, b, m), nil, name(0)+" "+words[0]+", "+name(0)+" "+words[1])
					s, err := b.Get(name(0))
					if state == 0 {
						refused(t, "it is over", err, api.ErrUnknown, 0)
						isNext(t, b, name(1), 0)
					} else if err != nil || s.Want != (api.Want{State: state, Left: tries}) || !s.Under || s.Noted != noted {
						t.Fatalf("%v, %v: %v, %v; want the state %d", c, noted, s, err, state)
					}
				}
			}
		}
	}
}

func TestP1405GoWhereNoneIsNext(t *testing.T) {
	for _, sequenced := range kinds() {
		b, m := both(t, nil, sequenced, 1)
		_, err := b.Go()
		refused(t, "empty", err, api.ErrState, 0)
		adds(t, b, m, "A", []byte("t"), always)
		adds(t, b, m, "B", []byte("t"), always)
		gives(t, b, m, 1)
		goes(t, b, m)
		if sequenced {
			_, err = b.Go()
			refused(t, "the head is under way", err, api.ErrState, 0)
			stands(t, "Go", b, m)
			continue
		}
		goes(t, b, m)
		_, err = b.Go()
		refused(t, "all are under way", err, api.ErrState, 0)
		stands(t, "Go", b, m)
	}
}

func TestP1405ALoadedNumberGoesOut(t *testing.T) {
	for _, n := range []int{1, top} {
		list := outs(2)
		list[0].Number = n
		b, m := both(t, list, true, 1)
		did(t, "Go", goes(t, b, m), nil, name(0)+" Send, "+name(0)+" Timer")
	}
}

func TestP1405EachGoesOutOnce(t *testing.T) {
	b, m := both(t, outs(most), false, 1)
	for i := range most {
		did(t, "Go", goes(t, b, m), nil, name(i)+" Send, "+name(i)+" Timer")
	}
	goes(t, b, m)
}
