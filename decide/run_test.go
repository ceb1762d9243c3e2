package decide

import (
	"testing"

	"courier/api"
)

// P1110: what follows from the other promises.

// moment is how far a run has come; what comes then hangs on nothing else.
type moment struct {
	w      api.Want
	dues   int
	finals int
}

func countFinals(acts []api.Act) int {
	n := 0
	for _, a := range acts {
		if a.Kind == api.ActFinal {
			n++
		}
	}
	return n
}

func isFinal(w api.Want) bool { return w.State >= api.WantAnswered }

// explorer goes through all runs from a Start, up to a few Dues behind the last that may be.
type explorer struct {
	t     *testing.T
	f     fact
	tries int
	seen  map[moment]bool
}

func (e *explorer) visit(m moment) {
	if e.seen[m] || m.dues > e.tries+4 {
		return
	}
	e.seen[m] = true
	if m.dues >= e.tries+2 && !isFinal(m.w) {
		e.t.Errorf("%v, tries %d: %v behind %d Dues", e.f.c, e.tries, m.w, m.dues)
	}
	if isFinal(m.w) != (m.finals == 1) || m.finals > 1 {
		e.t.Errorf("%v, tries %d: %v behind %d ActFinals", e.f.c, e.tries, m.w, m.finals)
		return
	}
	w, l, err := Due(e.f.c, m.w)
	e.step(m, "Due", w, l, err, 1)
	for _, code := range append(sixCodes(), "", "XX") {
		for _, number := range []bool{false, true} {
			w, l, err := Heard(e.f.c, m.w, code, number)
			e.step(m, code, w, l, err, 0)
		}
	}
}

func (e *explorer) step(m moment, what string, w api.Want, acts []api.Act, err error, dues int) {
	if err != nil {
		e.t.Errorf("%v: %v, %s: %v", e.f.c, m.w, what, err)
		return
	}
	if isFinal(m.w) && w != m.w {
		e.t.Errorf("%v: %v is left for %v by %s", e.f.c, m.w, w, what)
	}
	if timed := endsWithTimer(acts); timed && isFinal(w) {
		e.t.Errorf("%v: a timer in %v", e.f.c, w)
	}
	e.visit(moment{w, m.dues + dues, m.finals + countFinals(acts)})
}

func endsWithTimer(acts []api.Act) bool {
	return len(acts) > 0 && acts[len(acts)-1].Kind == api.ActTimer
}

func TestP1110EveryRunEnds(t *testing.T) {
	for _, f := range facts() {
		for tries := 0; tries <= api.MaxTries; tries++ {
			for _, noted := range []bool{false, true} {
				w, l, err := Start(f.c, tries, noted)
				if err != nil {
					if noted && !f.may("CA") {
						continue
					}
					t.Fatalf("Start(%v, %d, %v): %v", f.c, tries, noted, err)
				}
				e := explorer{t, f, tries, map[moment]bool{}}
				e.visit(moment{w, 0, countFinals(l)})
			}
		}
	}
}

func TestP1110DuesAlone(t *testing.T) {
	w, l, err := Start(enhanced(api.CondAL, api.CondER), 3, false)
	sendings := 0
	for dues := 0; err == nil && !isFinal(w); dues++ {
		if l[0].Kind == api.ActSend {
			sendings++
		}
		if dues > 5 {
			t.Fatal("no end")
		}
		w, l, err = Due(enhanced(api.CondAL, api.CondER), w)
	}
	if err != nil || w != (api.Want{State: api.WantFailed}) || sendings != 4 {
		t.Errorf("%v, %v behind %d sendings", w, err, sendings)
	}
}

func TestP1110WhatIsSentMayCome(t *testing.T) {
	for _, f := range facts() {
		_, taken, _ := Take(f.c)
		for _, verdict := range []string{"AA", "AE", "AR"} {
			k, judged, _ := Judge(f.c, api.Kept{}, verdict)
			first, _ := Copy(f.c, api.Kept{})
			second, err := Copy(f.c, k)
			if err != nil {
				t.Errorf("Copy(%v, %v): %v", f.c, k, err)
			}
			for _, l := range [][]api.Act{taken, judged, first, second} {
				for _, a := range l {
					if may, err := May(f.c, a.Code); a.Kind != api.ActDeliver && (err != nil || !may) {
						t.Errorf("%v: %v is sent and may not come", f.c, a)
					}
				}
			}
		}
	}
}

// hearAll lets the initiator hear what the responder sends, and tells its want and the code of the ActFinal.
func hearAll(t *testing.T, c api.Conditions, tries int, noted bool, lists ...[]api.Act) (api.Want, string) {
	t.Helper()
	w, l, err := Start(c, tries, noted)
	ended := finalCode(l)
	for _, list := range lists {
		for _, a := range list {
			if a.Kind != api.ActCommit && a.Kind != api.ActAnswer {
				continue
			}
			if err != nil {
				t.Fatalf("%v: %v", c, err)
			}
			w, l, err = Heard(c, w, a.Code, false)
			ended += finalCode(l)
		}
	}
	return w, ended
}

func finalCode(acts []api.Act) string {
	for _, a := range acts {
		if a.Kind == api.ActFinal {
			return a.Code
		}
	}
	return ""
}

func TestP1110BothSides(t *testing.T) {
	for _, f := range facts() {
		for _, verdict := range []string{"AA", "AE", "AR"} {
			for tries := 0; tries <= api.MaxTries; tries++ {
				for _, noted := range []bool{false, true} {
					if !noted || f.may("CA") {
						bothSides(t, f, verdict, tries, noted)
					}
				}
			}
		}
	}
}

func bothSides(t *testing.T, f fact, verdict string, tries int, noted bool) {
	t.Helper()
	k, taken, _ := Take(f.c)
	_, judged, err := Judge(f.c, k, verdict)
	if err != nil {
		t.Fatalf("Judge(%v, %v, %s): %v", f.c, k, verdict, err)
	}
	w, code := hearAll(t, f.c, tries, noted, taken, judged)
	want := ""
	if f.may(verdict) {
		want = verdict
	} else if f.owes("C") && !f.owes("A") && f.app != "ER" {
		want = "CA"
	}
	if (w.State == api.WantAnswered) != (want != "") || code != want || w.Left != tries {
		t.Errorf("%v, verdict %s, noted %v: %v by %q, want %q", f.c, verdict, noted, w, code, want)
	}
}
