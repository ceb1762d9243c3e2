package decide

import (
	"math"
	"testing"

	"courier/api"
)

// modelStart is P1104, said by the table of facts; it tells an error's number and place beside.
func modelStart(f fact, tries int, noted bool) (api.Want, string, api.Errno, int) {
	if tries < 0 || tries > 16 {
		return api.Want{}, "", api.ErrTries, 0
	}
	if noted && !f.may("CA") {
		return api.Want{}, "", api.ErrCond, 1
	}
	if f.owes("C") && !noted {
		return api.Want{State: api.WantCommit, Left: tries}, "Send Timer", 0, 0
	}
	if f.owes("A") {
		return api.Want{State: api.WantApp, Left: tries}, "Send Timer", 0, 0
	}
	if noted && f.app == "ER" || !noted && (f.accept == "ER" || f.app == "ER") {
		return api.Want{State: api.WantListen, Left: tries}, "Send Timer", 0, 0
	}
	if noted {
		return api.Want{State: api.WantAnswered, Left: tries}, "Send Final-CA", 0, 0
	}
	return api.Want{State: api.WantClosed, Left: tries}, "Send Final", 0, 0
}

func modelFits(f fact, w api.Want) bool {
	if w.Left < 0 || w.Left > 16 {
		return false
	}
	switch w.State {
	case 1:
		return f.owes("C")
	case 2:
		return f.owes("A")
	case 3:
		return f.owes("E")
	case 4, 5:
		return true
	case 6:
		return f.owes("C") || f.owes("A")
	}
	return false
}

// modelHeard is P1105 of a want that fits, rule by rule.
func modelHeard(f fact, w api.Want, code string, number bool) (api.Want, string) {
	to := func(state int) api.Want { return api.Want{State: state, Left: w.Left} }
	if w.State >= 4 || !f.may(code) {
		return w, "Strange"
	}
	if code == "CA" {
		if w.State != 1 {
			return w, ""
		}
		if f.app == "AL" || f.app == "SU" {
			return to(2), "Note"
		}
		if f.app == "ER" {
			return to(3), "Note Timer"
		}
		return to(4), "Final-CA"
	}
	if number && (code == "CE" || code == "AE") {
		if (f.accept == "AL" || f.accept == "SU") && w.State != 1 {
			return w, "Strange"
		}
		if w.Left > 0 {
			return api.Want{State: w.State, Left: w.Left - 1}, "Number Send Timer"
		}
	}
	return to(4), "Final-" + code
}

func modelDue(w api.Want) (api.Want, string) {
	switch {
	case w.State >= 4:
		return w, ""
	case w.State == 3:
		return api.Want{State: 5, Left: w.Left}, "Final"
	case w.Left == 0:
		return api.Want{State: 6}, "Final"
	}
	return api.Want{State: w.State, Left: w.Left - 1}, "Send Timer"
}

func TestP1104StartOverAll(t *testing.T) {
	for _, f := range facts() {
		for _, tries := range someTries() {
			for _, noted := range []bool{false, true} {
				want, acts, code, at := modelStart(f, tries, noted)
				w, l, err := Start(f.c, tries, noted)
				if code != 0 && !isFault(err, code, at) || code == 0 && err != nil || w != want || does(l) != acts {
					t.Errorf("Start(%v, %d, %v): %v, %q, %v, want %v, %q, %d at %d", f.c, tries, noted, w, does(l), err, want, acts, code, at)
				}
			}
		}
	}
}

func TestP1104TriesAheadOfNoted(t *testing.T) {
	for _, tries := range []int{math.MinInt, -1, 17, math.MaxInt} {
		_, _, err := Start(enhanced(api.CondNE, api.CondAL), tries, true)
		refused(t, "tries and noted", err, api.ErrTries, 0)
	}
	for _, tries := range []int{0, api.MaxTries} {
		_, _, err := Start(enhanced(api.CondNE, api.CondAL), tries, true)
		refused(t, "noted", err, api.ErrCond, 1)
		if w, _, err := Start(enhanced(api.CondNE, api.CondAL), tries, false); err != nil || w.Left != tries {
			t.Errorf("Start with %d tries: %v, %v", tries, w, err)
		}
	}
}

func TestP1104NotedWhereNoCAMayCome(t *testing.T) {
	for _, f := range facts() {
		_, _, err := Start(f.c, 1, true)
		switch f.accept {
		case "AL", "SU":
			if err != nil {
				t.Errorf("%s %s: %v", f.accept, f.app, err)
			}
		default:
			refused(t, f.accept+" "+f.app, err, api.ErrCond, 1)
		}
	}
}

func TestP1104NotedOnes(t *testing.T) {
	for _, c := range []struct {
		app   int
		state int
		acts  string
	}{
		{api.CondNE, api.WantAnswered, "Send Final-CA"},
		{api.CondAL, api.WantApp, "Send Timer"},
		{api.CondER, api.WantListen, "Send Timer"},
		{api.CondSU, api.WantApp, "Send Timer"},
	} {
		for _, accept := range []int{api.CondAL, api.CondSU} {
			w, l, err := Start(enhanced(accept, c.app), 5, true)
			if err != nil || w != (api.Want{State: c.state, Left: 5}) || does(l) != c.acts {
				t.Errorf("%d %d, noted: %v, %q, %v", accept, c.app, w, does(l), err)
			}
		}
	}
}

func TestP1105HeardOverAll(t *testing.T) {
	for _, f := range facts() {
		for _, w := range someWants() {
			for _, code := range allCodes() {
				for _, number := range []bool{false, true} {
					heardAsModel(t, f, w, code, number)
				}
			}
		}
	}
}

func heardAsModel(t *testing.T, f fact, w api.Want, code string, number bool) {
	t.Helper()
	got, l, err := Heard(f.c, w, code, number)
	if !modelFits(f, w) {
		if !isFault(err, api.ErrWant, 0) || got != (api.Want{}) || len(l) != 0 {
			t.Errorf("Heard(%v, %v, %q): %v, %v, %v, want ErrWant", f.c, w, code, got, l, err)
		}
		return
	}
	want, acts := modelHeard(f, w, code, number)
	if err != nil || got != want || does(l) != acts {
		t.Errorf("Heard(%v, %v, %q, %v): %v, %q, %v, want %v, %q", f.c, w, code, number, got, does(l), err, want, acts)
	}
}

func TestP1106DueOverAll(t *testing.T) {
	for _, f := range facts() {
		for _, w := range someWants() {
			got, l, err := Due(f.c, w)
			if !modelFits(f, w) {
				if !isFault(err, api.ErrWant, 0) || got != (api.Want{}) || len(l) != 0 {
					t.Errorf("Due(%v, %v): %v, %v, %v, want ErrWant", f.c, w, got, l, err)
				}
				continue
			}
			want, acts := modelDue(w)
			if err != nil || got != want || does(l) != acts {
				t.Errorf("Due(%v, %v): %v, %q, %v, want %v, %q", f.c, w, got, does(l), err, want, acts)
			}
		}
	}
}

// A want that doesn't fit is told whatever came.
func TestP1105WhichWantsFit(t *testing.T) {
	for _, c := range []struct {
		c    api.Conditions
		fits string // the states, by their numbers
	}{
		{api.Conditions{}, "2456"},
		{enhanced(api.CondNE, api.CondNE), "45"},
		{enhanced(api.CondER, api.CondNE), "345"},
		{enhanced(api.CondER, api.CondSU), "2456"},
		{enhanced(api.CondAL, api.CondNE), "1456"},
		{enhanced(api.CondAL, api.CondER), "13456"},
		{enhanced(api.CondSU, api.CondAL), "12456"},
	} {
		got := ""
		for state := 0; state <= 9; state++ {
			w := api.Want{State: state, Left: 1}
			_, _, heard := Heard(c.c, w, "nothing", true)
			_, _, due := Due(c.c, w)
			if (heard == nil) != (due == nil) {
				t.Errorf("%v, %v: Heard %v, Due %v", c.c, w, heard, due)
			}
			if heard == nil {
				got += string(rune('0' + state))
			} else {
				refused(t, "a want", heard, api.ErrWant, 0)
			}
		}
		if got != c.fits {
			t.Errorf("%v: states %s fit, want %s", c.c, got, c.fits)
		}
	}
}

func TestP1105OldRefusalsByNumber(t *testing.T) {
	for _, c := range []struct {
		c     api.Conditions
		state int
		code  string
		acts  string
	}{
		{enhanced(1, 1), api.WantCommit, "CE", "Number Send Timer"},
		{enhanced(1, 1), api.WantCommit, "AE", "Number Send Timer"},
		{enhanced(1, 1), api.WantApp, "CE", "Strange"},
		{enhanced(1, 1), api.WantApp, "AE", "Strange"},
		{enhanced(1, 1), api.WantApp, "AR", "Final-AR"},
		{enhanced(1, 1), api.WantCommit, "CR", "Final-CR"},
		{enhanced(3, 2), api.WantListen, "AE", "Strange"},
		{enhanced(2, 1), api.WantApp, "CE", "Number Send Timer"},
		{enhanced(2, 2), api.WantListen, "CE", "Number Send Timer"},
		{enhanced(0, 2), api.WantListen, "AE", "Number Send Timer"},
	} {
		w, l, err := Heard(c.c, api.Want{State: c.state, Left: 3}, c.code, true)
		if err != nil || does(l) != c.acts {
			t.Errorf("%v, %d, %s: %v, %q, %v, want %q", c.c, c.state, c.code, w, does(l), err, c.acts)
		}
	}
}
