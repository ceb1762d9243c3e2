package decide

import (
	"errors"
	"math"
	"strings"
	"testing"

	"courier/api"
)

// fact is a row of the chapter's table of codes, written out for one pair of conditions.
type fact struct {
	c                api.Conditions
	accept, app      string
	owed             string // C: a commit, A: an application's answer, E: an ear
	codes            string // what is sent, and may come
	header, contents string // the codes of refusals, in brackets where they are not sent
}

func enhanced(accept, app int) api.Conditions {
	return api.Conditions{Enhanced: true, Accept: accept, App: app}
}

func facts() []fact {
	return []fact{
		{api.Conditions{}, "", "", "A", "AA AE AR", "AR", "AE"},
		{enhanced(0, 0), "NE", "NE", "", "", "(CR)", "(CE)"},
		{enhanced(0, 1), "NE", "AL", "A", "AA AE AR", "(CR)", "(CE)"},
		{enhanced(0, 2), "NE", "ER", "E", "AE AR", "(CR)", "(CE)"},
		{enhanced(0, 3), "NE", "SU", "A", "AA", "(CR)", "(CE)"},
		{enhanced(1, 0), "AL", "NE", "C", "CA CE CR", "CR", "CE"},
		{enhanced(1, 1), "AL", "AL", "CA", "CA CE CR AA AE AR", "CR", "CE"},
		{enhanced(1, 2), "AL", "ER", "CE", "CA CE CR AE AR", "CR", "CE"},
		{enhanced(1, 3), "AL", "SU", "CA", "CA CE CR AA", "CR", "CE"},
		{enhanced(2, 0), "ER", "NE", "E", "CE CR", "CR", "CE"},
		{enhanced(2, 1), "ER", "AL", "A", "CE CR AA AE AR", "CR", "CE"},
		{enhanced(2, 2), "ER", "ER", "E", "CE CR AE AR", "CR", "CE"},
		{enhanced(2, 3), "ER", "SU", "A", "CE CR AA", "CR", "CE"},
		{enhanced(3, 0), "SU", "NE", "C", "CA", "(CR)", "(CE)"},
		{enhanced(3, 1), "SU", "AL", "CA", "CA AA AE AR", "(CR)", "(CE)"},
		{enhanced(3, 2), "SU", "ER", "CE", "CA AE AR", "(CR)", "(CE)"},
		{enhanced(3, 3), "SU", "SU", "CA", "CA AA", "(CR)", "(CE)"},
	}
}

func (f fact) owes(what string) bool { return strings.Contains(f.owed, what) }

func (f fact) may(code string) bool {
	return isSix(code) && strings.Contains(f.codes, code)
}

func isSix(code string) bool {
	return len(code) == 2 && strings.Contains("CA CE CR AA AE AR", code) && !strings.Contains(code, " ")
}

func sixCodes() []string { return strings.Fields("CA CE CR AA AE AR") }

// otherTexts are none of the six codes.
func otherTexts() []string {
	return []string{"", " ", "C", "A", "E", "R", "CC", "AC", "ca", "Aa", "aA", " CA", "CA ", "CAA", "CA CE", "A C", "AL", "NE", "XX", "\x00", "A\x00", "\xff\xfe", "ÄA"}
}

func allCodes() []string { return append(sixCodes(), otherTexts()...) }

// wrongConditions are all others that lie around the right ones, and some far away.
func wrongConditions() []api.Conditions {
	numbers := []int{math.MinInt, -1, 0, 1, 2, 3, 4, math.MaxInt}
	var list []api.Conditions
	for _, accept := range numbers {
		for _, app := range numbers {
			if accept != 0 || app != 0 {
				list = append(list, api.Conditions{Accept: accept, App: app})
			}
			if accept < 0 || accept > 3 || app < 0 || app > 3 {
				list = append(list, enhanced(accept, app))
			}
		}
	}
	return list
}

// someTries are the numbers at the bounds of tries, between and beyond.
func someTries() []int {
	list := []int{math.MinInt, -256, -1, 17, 256, math.MaxInt}
	for n := 0; n <= 16; n++ {
		list = append(list, n)
	}
	return list
}

func someWants() []api.Want {
	var list []api.Want
	for _, state := range []int{math.MinInt, -1, 0, 1, 2, 3, 4, 5, 6, 7, 8, 256 + 1, math.MaxInt} {
		for _, left := range someTries() {
			list = append(list, api.Want{State: state, Left: left})
		}
	}
	return list
}

func someKepts() []api.Kept {
	var list []api.Kept
	for _, code := range allCodes() {
		list = append(list, api.Kept{Code: code}, api.Kept{Decided: true, Code: code})
	}
	return list
}

func isFault(err error, code api.Errno, at int) bool {
	var f *api.Fault
	return errors.As(err, &f) && *f == (api.Fault{Layer: "decide", At: at, Code: code}) && errors.Is(err, code)
}

func refused(t *testing.T, what string, err error, code api.Errno, at int) {
	t.Helper()
	if !isFault(err, code, at) {
		t.Errorf("%s: %v, want errno %d at %d", what, err, code, at)
	}
}

func act(kind int, code string) api.Act { return api.Act{Kind: kind, Code: code} }

// does writes acts as words, so that a test tells them at a glance.
func does(acts []api.Act) string {
	kinds := []string{"?", "Send", "Timer", "Note", "Final", "Number", "Strange", "Commit", "Deliver", "Answer"}
	var words []string
	for _, a := range acts {
		word := "?"
		if a.Kind > 0 && a.Kind < len(kinds) {
			word = kinds[a.Kind]
		}
		if a.Code != "" {
			word += "-" + a.Code
		}
		words = append(words, word)
	}
	return strings.Join(words, " ")
}
