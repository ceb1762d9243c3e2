package decide

import (
	"strings"
	"testing"

	"courier/api"
)

func TestP1101ModeOfWords(t *testing.T) {
	for _, f := range facts() {
		if c, err := Mode(f.accept, f.app); err != nil || c != f.c {
			t.Errorf("Mode(%q, %q): %v, %v, want %v", f.accept, f.app, c, err, f.c)
		}
	}
}

func TestP1101EmptyBesideAWordIsNE(t *testing.T) {
	for number, word := range []string{"NE", "AL", "ER", "SU"} {
		if c, err := Mode(word, ""); err != nil || c != enhanced(number, api.CondNE) {
			t.Errorf("Mode(%q, \"\"): %v, %v", word, c, err)
		}
		if c, err := Mode("", word); err != nil || c != enhanced(api.CondNE, number) {
			t.Errorf("Mode(\"\", %q): %v, %v", word, c, err)
		}
	}
}

func TestP1101ModeRefusesOtherTexts(t *testing.T) {
	wrong := []string{"XX", "YY", "al", "Al", "aL", " AL", "AL ", "A", "L", "ALL", "NEAL", "ne", "Er", "sU", "0", "\"\"", " ", "\x00", "\xff", "CA", strings.Repeat("AL", 1000)}
	right := []string{"", "AL", "NE", "ER", "SU"}
	for _, bad := range wrong {
		for _, good := range right {
			c, err := Mode(bad, good)
			refused(t, "Mode("+bad+", "+good+")", err, api.ErrCond, 15)
			d, err := Mode(good, bad)
			refused(t, "Mode("+good+", "+bad+")", err, api.ErrCond, 16)
			if c != (api.Conditions{}) || d != (api.Conditions{}) {
				t.Errorf("conditions beside a refusal of %q: %v, %v", bad, c, d)
			}
		}
		for _, other := range wrong {
			_, err := Mode(bad, other)
			refused(t, "Mode("+bad+", "+other+")", err, api.ErrCond, 15)
		}
	}
}

func TestP1101TextsOfConditions(t *testing.T) {
	for _, f := range facts() {
		accept, app, err := Texts(f.c)
		if err != nil || accept != f.accept || app != f.app {
			t.Errorf("Texts(%v): %q, %q, %v", f.c, accept, app, err)
		}
		if c, err := Mode(accept, app); err != nil || c != f.c {
			t.Errorf("Mode of Texts(%v): %v, %v", f.c, c, err)
		}
	}
}

func TestP1101EmptyComesBackAsNE(t *testing.T) {
	c, _ := Mode("SU", "")
	if accept, app, err := Texts(c); err != nil || accept != "SU" || app != "NE" {
		t.Errorf("Texts of Mode(SU, \"\"): %q, %q, %v", accept, app, err)
	}
	c, _ = Mode("", "ER")
	if accept, app, err := Texts(c); err != nil || accept != "NE" || app != "ER" {
		t.Errorf("Texts of Mode(\"\", ER): %q, %q, %v", accept, app, err)
	}
}

// What is wrong beside the conditions must not be told ahead of them.
func TestP1101WrongConditionsAheadOfAll(t *testing.T) {
	for _, c := range wrongConditions() {
		accept, app, err := Texts(c)
		refused(t, "Texts", err, api.ErrCond, 0)
		code, sent, err := Refuse(c, true)
		refused(t, "Refuse", err, api.ErrCond, 0)
		commit, answer, ear, err := Owes(c)
		refused(t, "Owes", err, api.ErrCond, 0)
		if accept != "" || app != "" || code != "" || sent || commit || answer || ear {
			t.Errorf("%v: results beside a refusal", c)
		}
		for _, text := range []string{"AA", "CA", "XX", ""} {
			may, err := May(c, text)
			refused(t, "May", err, api.ErrCond, 0)
			if may {
				t.Errorf("May(%v, %q) beside a refusal", c, text)
			}
		}
		for _, tries := range []int{-1, 0, 16, 17} {
			for _, noted := range []bool{false, true} {
				w, l, err := Start(c, tries, noted)
				refused(t, "Start", err, api.ErrCond, 0)
				if w != (api.Want{}) || len(l) != 0 {
					t.Errorf("Start(%v) beside a refusal: %v, %v", c, w, l)
				}
			}
		}
	}
}

func TestP1105WrongConditionsAheadOfTheWant(t *testing.T) {
	for _, c := range wrongConditions() {
		for _, w := range []api.Want{{}, {State: 1}, {State: 2, Left: 3}, {State: 3}, {State: 4}, {State: 5, Left: 16}, {State: 6}, {State: 7}, {State: 2, Left: 17}, {State: -1, Left: -1}} {
			for _, code := range []string{"CA", "AE", "XX"} {
				got, l, err := Heard(c, w, code, true)
				refused(t, "Heard", err, api.ErrCond, 0)
				if got != (api.Want{}) || len(l) != 0 {
					t.Errorf("Heard(%v) beside a refusal: %v, %v", c, got, l)
				}
			}
			got, l, err := Due(c, w)
			refused(t, "Due", err, api.ErrCond, 0)
			if got != (api.Want{}) || len(l) != 0 {
				t.Errorf("Due(%v) beside a refusal: %v, %v", c, got, l)
			}
		}
	}
}

func TestP1108WrongConditionsAheadOfTheKept(t *testing.T) {
	for _, c := range wrongConditions() {
		k, l, err := Take(c)
		refused(t, "Take", err, api.ErrCond, 0)
		if k != (api.Kept{}) || len(l) != 0 {
			t.Errorf("Take(%v) beside a refusal: %v, %v", c, k, l)
		}
		for _, kept := range []api.Kept{{}, {Decided: true, Code: "AA"}, {Decided: true}, {Code: "AA"}} {
			for _, code := range []string{"AA", "CA", ""} {
				k, l, err := Judge(c, kept, code)
				refused(t, "Judge", err, api.ErrCond, 0)
				if k != (api.Kept{}) || len(l) != 0 {
					t.Errorf("Judge(%v) beside a refusal: %v, %v", c, k, l)
				}
			}
			l, err := Copy(c, kept)
			refused(t, "Copy", err, api.ErrCond, 0)
			if len(l) != 0 {
				t.Errorf("Copy(%v) beside a refusal: %v", c, l)
			}
		}
	}
}

func TestP1102RefuseOverAllConditions(t *testing.T) {
	for _, f := range facts() {
		for _, header := range []bool{true, false} {
			want := f.contents
			if header {
				want = f.header
			}
			code, sent, err := Refuse(f.c, header)
			got := code
			if !sent {
				got = "(" + code + ")"
			}
			if err != nil || got != want {
				t.Errorf("Refuse(%v, %v): %q, %v, %v, want %s", f.c, header, code, sent, err, want)
			}
		}
	}
}

func TestP1103OwesOverAllConditions(t *testing.T) {
	for _, f := range facts() {
		commit, app, ear, err := Owes(f.c)
		if err != nil || commit != f.owes("C") || app != f.owes("A") || ear != f.owes("E") {
			t.Errorf("Owes(%v): %v, %v, %v, %v, want %q", f.c, commit, app, ear, err, f.owed)
		}
	}
}

func TestP1103MayOverAllConditions(t *testing.T) {
	for _, f := range facts() {
		for _, code := range allCodes() {
			if may, err := May(f.c, code); err != nil || may != f.may(code) {
				t.Errorf("May(%v, %q): %v, %v", f.c, code, may, err)
			}
		}
	}
}

func TestP1103MayOfEveryTextOfTwoBytes(t *testing.T) {
	all := enhanced(api.CondAL, api.CondAL)
	for a := 0; a < 256; a++ {
		for b := 0; b < 256; b++ {
			text := string([]byte{byte(a), byte(b)})
			if may, err := May(all, text); err != nil || may != isSix(text) {
				t.Errorf("May(AL AL, %q): %v, %v", text, may, err)
			}
		}
	}
}
