package decide

import (
	"testing"

	"courier/api"
)

// The chapter's nine examples (the first one's Mode stands with P1101 too).

// step is what happens to an initiator, and what must come of it.
type step struct {
	code   string // "due": the timer has run out
	number bool
	want   api.Want
	acts   string
}

func play(t *testing.T, what string, c api.Conditions, tries int, noted bool, first step, rest ...step) {
	t.Helper()
	w, l, err := Start(c, tries, noted)
	if err != nil || w != first.want || does(l) != first.acts {
		t.Fatalf("%s: Start: %v, %q, %v", what, w, does(l), err)
	}
	for _, s := range rest {
		if s.code == "due" {
			w, l, err = Due(c, w)
		} else {
			w, l, err = Heard(c, w, s.code, s.number)
		}
		if err != nil || w != s.want || does(l) != s.acts {
			t.Fatalf("%s: %s: %v, %q, %v, want %v, %q", what, s.code, w, does(l), err, s.want, s.acts)
		}
	}
}

func want(state, left int) api.Want { return api.Want{State: state, Left: left} }

func TestP1101Example1(t *testing.T) {
	if c, err := Mode("", ""); err != nil || c != (api.Conditions{}) {
		t.Errorf("%v, %v", c, err)
	}
	if c, err := Mode("AL", ""); err != nil || c != (api.Conditions{Enhanced: true, Accept: api.CondAL, App: api.CondNE}) {
		t.Errorf("%v, %v", c, err)
	}
	_, err := Mode("XX", "YY")
	refused(t, "XX and YY", err, api.ErrCond, 15)
	_, err = Mode("", "al")
	refused(t, "al", err, api.ErrCond, 16)
}

func TestP1105Examples2To5(t *testing.T) {
	play(t, "AL AL", enhanced(1, 1), 2, false, step{want: want(api.WantCommit, 2), acts: "Send Timer"},
		step{code: "CA", want: want(api.WantApp, 2), acts: "Note"},
		step{code: "CA", want: want(api.WantApp, 2)},
		step{code: "due", want: want(api.WantApp, 1), acts: "Send Timer"},
		step{code: "AE", want: want(api.WantAnswered, 1), acts: "Final-AE"},
		step{code: "AA", want: want(api.WantAnswered, 1), acts: "Strange"})
	play(t, "AL NE", enhanced(1, 0), 2, false, step{want: want(api.WantCommit, 2), acts: "Send Timer"},
		step{code: "CA", want: want(api.WantAnswered, 2), acts: "Final-CA"},
		step{code: "AA", want: want(api.WantAnswered, 2), acts: "Strange"})
	for _, accept := range []int{api.CondAL, api.CondSU} {
		c := enhanced(accept, api.CondER)
		begin := step{want: want(api.WantCommit, 2), acts: "Send Timer"}
		listen := step{code: "CA", want: want(api.WantListen, 2), acts: "Note Timer"}
		play(t, "ER, due", c, 2, false, begin, listen, step{code: "due", want: want(api.WantClosed, 2), acts: "Final"})
		play(t, "ER, AR", c, 2, false, begin, listen, step{code: "AR", want: want(api.WantAnswered, 2), acts: "Final-AR"})
		play(t, "ER, noted", c, 2, true, step{want: want(api.WantListen, 2), acts: "Send Timer"})
	}
	play(t, "SU ER", enhanced(3, 2), 2, false, step{want: want(api.WantCommit, 2), acts: "Send Timer"},
		step{code: "CE", want: want(api.WantCommit, 2), acts: "Strange"})
	play(t, "NE NE", enhanced(0, 0), 2, false, step{want: want(api.WantClosed, 2), acts: "Send Final"})
	play(t, "ER NE", enhanced(2, 0), 2, false, step{want: want(api.WantListen, 2), acts: "Send Timer"})
}

func TestP1106Examples6And7(t *testing.T) {
	begin := step{want: want(api.WantApp, 0), acts: "Send Timer"}
	play(t, "original, due", api.Conditions{}, 0, false, begin, step{code: "due", want: want(api.WantFailed, 0), acts: "Final"})
	play(t, "original, AE", api.Conditions{}, 0, false, begin, step{code: "AE", number: true, want: want(api.WantAnswered, 0), acts: "Final-AE"})
	play(t, "original, a try left", api.Conditions{}, 1, false, step{want: want(api.WantApp, 1), acts: "Send Timer"},
		step{code: "AE", number: true, want: want(api.WantApp, 0), acts: "Number Send Timer"})
}

func TestP1109Example8(t *testing.T) {
	both, errors := enhanced(1, 1), enhanced(0, 2)
	k, l, err := Take(both)
	if err != nil || k != (api.Kept{}) || does(l) != "Commit-CA Deliver" {
		t.Errorf("Take: %v, %q, %v", k, does(l), err)
	}
	k, l, err = Judge(both, k, "AA")
	if err != nil || k != (api.Kept{Decided: true, Code: "AA"}) || does(l) != "Answer-AA" {
		t.Errorf("Judge: %v, %q, %v", k, does(l), err)
	}
	if l, err := Copy(both, k); err != nil || does(l) != "Commit-CA Answer-AA" {
		t.Errorf("Copy: %q, %v", does(l), err)
	}
	if _, l, err := Take(errors); err != nil || does(l) != "Deliver" {
		t.Errorf("Take: %q, %v", does(l), err)
	}
	if k, l, err := Judge(errors, api.Kept{}, "AA"); err != nil || k != (api.Kept{Decided: true, Code: "AA"}) || does(l) != "" {
		t.Errorf("Judge AA: %v, %q, %v", k, does(l), err)
	}
	if _, l, err := Judge(errors, api.Kept{}, "AR"); err != nil || does(l) != "Answer-AR" {
		t.Errorf("Judge AR: %q, %v", does(l), err)
	}
}

func TestP1104Example9(t *testing.T) {
	_, _, err := Start(enhanced(0, 1), 1, true)
	refused(t, "NE AL, noted", err, api.ErrCond, 1)
	_, _, err = Start(enhanced(0, 1), 17, false)
	refused(t, "17 tries", err, api.ErrTries, 0)
	_, _, err = Heard(api.Conditions{}, api.Want{State: api.WantListen}, "AA", false)
	refused(t, "original, listening", err, api.ErrWant, 0)
}
