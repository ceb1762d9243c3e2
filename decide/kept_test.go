package decide

import (
	"strings"
	"testing"

	"courier/api"
)

func isRightKept(k api.Kept) bool {
	switch k {
	case api.Kept{}, api.Kept{Decided: true, Code: "AA"}, api.Kept{Decided: true, Code: "AE"}, api.Kept{Decided: true, Code: "AR"}:
		return true
	}
	return false
}

func TestP1107TakeOverAllConditions(t *testing.T) {
	for _, f := range facts() {
		want := "Deliver"
		if f.may("CA") {
			want = "Commit-CA Deliver"
		}
		if k, l, err := Take(f.c); err != nil || k != (api.Kept{}) || does(l) != want {
			t.Errorf("Take(%v): %v, %q, %v, want %q", f.c, k, does(l), err, want)
		}
	}
}

func TestP1108JudgeOverAll(t *testing.T) {
	for _, f := range facts() {
		for _, k := range someKepts() {
			for _, code := range allCodes() {
				judgeAsTheDocument(t, f, k, code)
			}
		}
	}
}

func judgeAsTheDocument(t *testing.T, f fact, k api.Kept, code string) {
	t.Helper()
	got, l, err := Judge(f.c, k, code)
	if k != (api.Kept{}) || !strings.HasPrefix(code, "A") || !isSix(code) {
		number := api.ErrKept
		if k == (api.Kept{}) {
			number = api.ErrCode
		}
		if !isFault(err, number, 0) || got != (api.Kept{}) || len(l) != 0 {
			t.Errorf("Judge(%v, %v, %q): %v, %v, %v, want errno %d", f.c, k, code, got, l, err, number)
		}
		return
	}
	want := ""
	if f.may(code) {
		want = "Answer-" + code
	}
	if err != nil || got != (api.Kept{Decided: true, Code: code}) || does(l) != want {
		t.Errorf("Judge(%v, %v, %q): %v, %q, %v, want %q", f.c, k, code, got, does(l), err, want)
	}
}

func TestP1108RefusedInOrder(t *testing.T) {
	_, _, err := Judge(api.Conditions{}, api.Kept{Decided: true, Code: "AE"}, "AA")
	refused(t, "decided already", err, api.ErrKept, 0)
	_, _, err = Judge(api.Conditions{}, api.Kept{Decided: true, Code: "AE"}, "CA")
	refused(t, "decided already, no verdict", err, api.ErrKept, 0)
	_, _, err = Judge(api.Conditions{}, api.Kept{Code: "AE"}, "AA")
	refused(t, "a code without a verdict", err, api.ErrKept, 0)
	for _, code := range []string{"CA", "CE", "CR", "", "aa", "XX", "AAA"} {
		_, _, err = Judge(enhanced(api.CondAL, api.CondAL), api.Kept{}, code)
		refused(t, "no verdict "+code, err, api.ErrCode, 0)
	}
}

func TestP1109CopyOverAll(t *testing.T) {
	for _, f := range facts() {
		for _, k := range someKepts() {
			l, err := Copy(f.c, k)
			if !isRightKept(k) {
				if !isFault(err, api.ErrKept, 0) || len(l) != 0 {
					t.Errorf("Copy(%v, %v): %v, %v, want ErrKept", f.c, k, l, err)
				}
				continue
			}
			var want []string
			if f.may("CA") {
				want = append(want, "Commit-CA")
			}
			if k.Decided && f.may(k.Code) {
				want = append(want, "Answer-"+k.Code)
			}
			if err != nil || does(l) != strings.Join(want, " ") {
				t.Errorf("Copy(%v, %v): %q, %v, want %q", f.c, k, does(l), err, want)
			}
		}
	}
}
