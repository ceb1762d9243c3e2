package world

import (
	"errors"
	"strconv"
	"strings"
	"testing"

	"courier/api"
	"courier/audit"
)

// P2205: Play. P2206: Check.

func TestPlayRefused(t *testing.T) {
	for text, want := range map[string]string{
		"":                                  "refused 1 world 441\n",
		"x":                                 "refused 1 world 441\n",
		"setup":                             "refused 2 world 441\n",
		"setup\nx\n":                        "refused 3 world 441\n",
		"setup\nevents":                     "refused 2 world 341 setup 341\n",
		"setup\nx\nevents\n":                "refused 2 world 340 setup 340\n",
		"setup\n" + setupText + "x\nevents": "refused 22 world 180 setup 180 profile 180\n",
		"setup\n" + setupText + strings.Repeat(" ", 40000) + "\nevents": "refused 22 world 4 setup 4 profile 4\n",
		"setup\n" + setupText + strings.Repeat(" ", 70000) + "\nevents": "refused 1 world 4 setup 4\n",
		strings.Replace(head, "every 5", "every 5\nevery 5", 1):         "refused 10 world 6 setup 6\n",
		head + "x":                        "refused 25 world 440\n",
		head + "\n":                       "refused 25 world 440\n",
		head + "sync 0\n":                 "0 up 0\n0 up 1\n",
		head + "sync 0\nsync 0\nsync 2\n": "refused 27 world 440\n",
		head + strings.Repeat("sync 0\n", lastLine+1):            "refused 4025 world 5\n",
		head + strings.Repeat("raw 0 \"0123456789\"\n", 1<<14):   "refused 0 world 4\n",
		strings.Replace(head, "side b", "side b\nevents\n", 1):   "refused 14 world 341 setup 341\n",
		strings.Replace(head, "structures", "# structures", 1):   "refused 23 world 340 setup 340\n",
		strings.Replace(head, "structures\n", "events\n", 1):     "refused 22 world 341 setup 341\n",
		strings.Replace(head, "facility \"\"", "facility \"", 1): "refused 6 world 340 setup 340\n",
	} {
		if got := Play(text); got != want {
			t.Errorf("%.400q: %q, want %q", text, got, want)
		}
	}
}

// Each fault of a chain has its words, from the outermost on; only the outermost one's place is told.
func TestRefusedChain(t *testing.T) {
	chain := &api.Fault{Layer: "world", At: 7, Code: api.ErrReport, Under: &api.Fault{Layer: "audit", At: 8, Code: api.ErrTrace, Under: &api.Fault{Layer: "setup", At: 9, Code: api.ErrLong, Under: api.ErrFull}}}
	for want, err := range map[string]error{
		"refused 7 world 443 audit 420 setup 4\n": chain,
		"refused 8 audit 420 setup 4\n":           chain.Under,
		"refused 0 world 441\n":                   &api.Fault{Layer: "world", Code: api.ErrBlock},
		"refused 3 world 441\n":                   &api.Fault{Layer: "world", At: 3, Code: api.ErrBlock, Under: api.ErrBlock},
	} {
		if got := refused(err); got != want {
			t.Errorf("%v: %q, want %q", err, got, want)
		}
	}
}

// Play is Parse, Run and Report.
func TestPlayIsItsParts(t *testing.T) {
	for _, x := range examples() {
		text := head + strings.TrimPrefix(x.script, "\n")
		s := parsed(t, text)
		if got := Play(text); got != reported(t, runs(t, s)) {
			t.Errorf("%q", got)
		}
		if got := Play(printed(t, s)); got != Play(text) {
			t.Errorf("%q", got)
		}
	}
}

// noCheck: Check refuses with that; under it stands audit's fault, where one is named.
func noCheck(t *testing.T, script, report string, at int, code, under api.Errno) {
	t.Helper()
	got, err := Check(script, report)
	f := isFault(t, "Check "+report, got, err, at, code)
	if under == api.OK {
		return
	}
	var inner *api.Fault
	if !errors.As(f.Under, &inner) || *inner != (api.Fault{Layer: "audit", At: at, Code: under}) || !errors.Is(err, under) {
		t.Fatalf("under it %v", f.Under)
	}
}

func TestCheckReads(t *testing.T) {
	script := head + "sync 0\n"
	report := "0 up 0\n0 up 1\n"
	if at, err := Check(script, report); at != 0 || err != nil {
		t.Errorf("%d, %v", at, err)
	}
	// The script's refusals, as Parse has them, ahead of the report's.
	for _, text := range []string{"", "setup\nx\n", "setup\nx\nevents\n", "setup\n" + setupText + "x\nevents\n", head + "sync 2\n", head + strings.Repeat("sync 0\n", 4001), strings.Repeat(" ", longest+1)} {
		_, at, want := Parse(text)
		for _, report := range []string{report, "wrong", ""} {
			got, err := Check(text, report)
			if err == nil || got != at || err.Error() != want.Error() {
				t.Errorf("%.100q: %d, %v; want %v", text, got, err, want)
			}
		}
	}
	// The report's.
	for text, at := range map[string]int{"wrong": 1, "\n": 1, report + "x": 3, report + "1 up 2\n": 3, "1 up 0\n0 up 0\n": 2, "refused 1 world 441\n": 1, "4001 up 0\n": 1} {
		_, _, want := Read(text)
		got, err := Check(script, text)
		isBare(t, "Check "+text, got, err, at, api.ErrReport)
		if err.Error() != want.Error() {
			t.Errorf("%q: %v, want %v", text, err, want)
		}
	}
}

// Judge's number, and its error under ErrReport.
func TestCheckJudges(t *testing.T) {
	script := head + "submit 0 " + quotes("A1", "AL AL") + "\nsync 0\nsync 0\n"
	begun := "0 up 0\n0 up 1\n"
	out := "out 0 " + frame("A1", "AL AL") + "\n"
	if Play(script) != begun+"2 "+out {
		t.Fatalf("%q", Play(script))
	}
	for report, at := range map[string]int{
		"": 0, "0 up 0\n": 0, "0 up 1\n0 up 0\n": 0, begun + "0 up 1\n": 0, "1 up 0\n1 up 1\n": 0,
		begun + "4 up 0\n": 0, // more lists than events
		begun:              2, begun + "1 " + out: 1, begun + "3 " + out: 2, begun + "2 " + out + "2 " + out: 2, begun + "2 " + out + "3 " + out: 3, begun + "2 lost 0\n": 2,
		begun + "2 " + out + "3 refused 0 1\n": 3, begun + "2 " + strings.Replace(out, "out 0", "out 1", 1): 2, begun + "2 " + strings.Replace(out, "A1", "A2", 1): 2,
	} {
		noCheck(t, script, report, at, api.ErrReport, api.ErrTrace)
	}
	// With lists that are empty, and with none.
	if at, err := Check(head+"sync 0\nsync 0\n", begun); at != 0 || err != nil {
		t.Errorf("%d, %v", at, err)
	}
	if at, err := Check(head, begun); at != 0 || err != nil {
		t.Errorf("%d, %v", at, err)
	}
	noCheck(t, head, begun+"1 up 0\n", 0, api.ErrReport, api.ErrTrace)
}

// manyWays is a script of which audit holds more states to be than may be: of each side's 66 records a crash leaves some.
func manyWays() string {
	text := strings.ReplaceAll(head, "compact 9", "compact 256")
	for _, side := range []string{"0", "1"} {
		for i := range 33 {
			text += "submit " + side + " " + quotes("A"+strconv.Itoa(i), "NE NE") + "\n"
		}
	}
	return text + "crash 0 1 0 1 0\ncrash 1 1 0 1 0\nrestart 0\n"
}

func TestCheckWays(t *testing.T) {
	text := manyWays()
	report := Play(text)
	at, err := Check(text, report)
	s, seen := parsed(t, text), reads(t, report)
	want, inner := audit.Judge(s.Setup, s.Events, seen)
	if !errors.Is(inner, api.ErrWays) || want == 0 {
		t.Fatalf("not so many ways: %d, %v", want, inner)
	}
	isOver(t, "Check", at, err, want, api.ErrReport, inner)
	noCheck(t, text, report, want, api.ErrReport, api.ErrWays)
	if !errors.Is(err, api.ErrWays) {
		t.Errorf("%v", err)
	}
}
