package world

import (
	"fmt"
	"math"
	"strings"
	"testing"

	"courier/api"
	"courier/setup"
)

// P2202: Print.

func noPrint(t *testing.T, s api.Script, at int, code api.Errno) {
	t.Helper()
	text, got, err := Print(s)
	isBare(t, fmt.Sprintf("Print %v", s), got, err, at, code)
	if text != "" {
		t.Errorf("%q beside a refusal", text)
	}
}

// isEvent: whether a line says the event, and which; Run takes just those too.
func isEvent(t *testing.T, e api.Event, want bool) {
	t.Helper()
	s := scriptOf(api.Event{Kind: api.EvSync}, e)
	seen, err := Run(s)
	if !want {
		noPrint(t, s, 2, api.ErrEvent)
		at := 0
		if err != nil {
			at = 2
		}
		isBare(t, "Run "+eventText(e), at, err, 2, api.ErrEvent)
		if seen != nil {
			t.Errorf("%v beside a refusal", seen)
		}
		return
	}
	text := printed(t, s)
	if line := "events\nsync 0\n" + secondEventLine(e) + "\n"; !strings.HasSuffix(text, line) {
		t.Fatalf("%s: %q, want %q", eventText(e), text, line)
	}
	if back := parsed(t, text); back.Setup != s.Setup || !sameEvents(back.Events, s.Events) {
		t.Fatalf("%s: back: %v", eventText(e), back.Events)
	}
	if err != nil || len(seen) != 3 {
		t.Fatalf("Run %s: %v", eventText(e), err)
	}
}

// plainEvent has in each place the least that its row takes.
func plainEvent(r row) api.Event {
	e := api.Event{Kind: api.EventKind(r.kind)}
	for _, p := range r.places {
		switch p.name {
		case "control":
			e.Control = "x"
		case "code":
			e.Code = "x"
		case "count":
			e.Count = p.least
		}
	}
	return e
}

// uses tells whether a row has a place.
func (r row) uses(name string) (place, bool) {
	for _, p := range r.places {
		if p.name == name {
			return p, true
		}
	}
	return place{}, false
}

func someNumbers(p place) []int {
	return []int{math.MinInt, -1 << 32, p.least - 2, p.least - 1, p.least, p.least + 1, -2, -1, 0, 1, 2, p.most - 1, p.most, p.most + 1, 1 << 32, 1<<32 + 1, math.MaxInt}
}

func TestPrintNumbers(t *testing.T) {
	t.Parallel()
	for _, r := range eventRows() {
		for name, set := range map[string]func(e *api.Event, v int){
			"side":   func(e *api.Event, v int) { e.Side = v },
			"index":  func(e *api.Event, v int) { e.Index = v },
			"count":  func(e *api.Event, v int) { e.Count = v },
			"keep0":  func(e *api.Event, v int) { e.Tears[0].Keep = v },
			"zeros0": func(e *api.Event, v int) { e.Tears[0].Zeros = v },
			"keep1":  func(e *api.Event, v int) { e.Tears[1].Keep = v },
			"zeros1": func(e *api.Event, v int) { e.Tears[1].Zeros = v },
		} {
			p, _ := r.uses(name)
			for _, v := range someNumbers(p) {
				e := plainEvent(r)
				set(&e, v)
				isEvent(t, e, v >= p.least && v <= p.most)
			}
		}
	}
}

var (
	someWords = []string{"x", "-", "#", "!", "~", "A1", "events", "0", "-1", "\\x41", strings.Repeat("w", 63), strings.Repeat("w", 64)}
	noWords   = []string{"", " ", "a b", " a", "a ", "\"", "a\"b", "\"\"", "a\n", "\n", "\r", "\t", "a\tb", "\x00", "\x1f", "\x7f", "\x80", "é", "\xff", "x 0", "x 1 - 0 0 0 0 0", "x\nsync 0", strings.Repeat("w", 65), strings.Repeat("w", 9999)}
)

func TestPrintTexts(t *testing.T) {
	t.Parallel()
	for _, r := range eventRows() {
		_, control := r.uses("control")
		_, code := r.uses("code")
		_, text := r.uses("text")
		for _, w := range someWords {
			e := plainEvent(r)
			e.Control = w
			isEvent(t, e, control)
			e = plainEvent(r)
			e.Code = w
			isEvent(t, e, code)
		}
		for _, w := range noWords {
			e := plainEvent(r)
			e.Control = w
			isEvent(t, e, !control && w == "")
			e = plainEvent(r)
			e.Code = w
			isEvent(t, e, !code && w == "")
		}
		for b := range 256 {
			e := plainEvent(r)
			e.Text = []byte{byte(b)}
			isEvent(t, e, text)
		}
		for _, w := range []string{"\"", "\\", "\r\n", "a b", " ", "\\x41", "\\r", strings.Repeat("x", 10000), strings.Repeat("\xff\x00", 10000), "x\"\nsync 0"} {
			e := plainEvent(r)
			e.Text = []byte(w)
			isEvent(t, e, text)
		}
		e := plainEvent(r)
		e.Text, e.Errors = []byte{}, []api.Finding{}
		isEvent(t, e, true)
	}
}

func TestPrintFindings(t *testing.T) {
	for _, r := range eventRows() {
		_, found := r.uses("findings")
		for _, list := range [][]api.Finding{{{}}, {{Code: 207}}, {{Code: 999, Seg: "PID", Occur: 999, Field: 999, Rep: 999, Comp: 999, Sub: 999}, {}}, make([]api.Finding, 100)} {
			e := plainEvent(r)
			e.Errors = list
			isEvent(t, e, found)
		}
	}
	verdict := plainEvent(eventRows()[1])
	for _, set := range []func(f *api.Finding, v int){
		func(f *api.Finding, v int) { f.Code = v },
		func(f *api.Finding, v int) { f.Occur = v },
		func(f *api.Finding, v int) { f.Field = v },
		func(f *api.Finding, v int) { f.Rep = v },
		func(f *api.Finding, v int) { f.Comp = v },
		func(f *api.Finding, v int) { f.Sub = v },
	} {
		for _, v := range someNumbers(place{least: 0, most: 999}) {
			for at := range 2 {
				e := verdict
				e.Errors = make([]api.Finding, 2)
				set(&e.Errors[at], v)
				isEvent(t, e, v >= 0 && v <= 999)
			}
		}
	}
	for _, w := range someWords {
		verdict.Errors = []api.Finding{{Seg: w}}
		isEvent(t, verdict, w != "-") // that is how none is written
	}
	for _, w := range noWords {
		verdict.Errors = []api.Finding{{Code: 1}, {Seg: w}}
		isEvent(t, verdict, w == "")
	}
}

func TestPrintKinds(t *testing.T) {
	for _, kind := range []int{math.MinInt, -16, -1, 0, 17, 18, 255, 256, 257, 1 << 32, 1<<32 + 1, math.MaxInt} {
		isEvent(t, api.Event{Kind: api.EventKind(kind)}, false)
		isEvent(t, api.Event{Kind: api.EventKind(kind), Count: 1, Control: "x", Code: "x"}, false)
	}
	for _, r := range eventRows() {
		isEvent(t, plainEvent(r), true)
	}
}

func TestPrintRandomEvents(t *testing.T) {
	for seed := range seeds(40) {
		m := newMaker(2202, uint64(seed))
		for range 25 {
			isEvent(t, m.event(), true)
		}
	}
}

func TestPrintSetup(t *testing.T) {
	s := scriptOf(api.Event{Kind: api.EvSync})
	want, err := setup.Print(s.Setup)
	if err != nil {
		t.Fatal(err)
	}
	if text := printed(t, s); text != "setup\n"+want+"events\nsync 0\n" {
		t.Errorf("%q", text)
	}
	s.Events = nil
	if text := printed(t, s); text != "setup\n"+want+"events\n" {
		t.Errorf("%q", text)
	}
	s.Setup.Profile = ""
	if text := printed(t, s); !strings.HasSuffix(text, "\nstructures\nevents\n") {
		t.Errorf("%q", text)
	}
}

// wrongSetups have a field that is not right, each.
func wrongSetups() []api.Setup {
	list := []api.Setup{{}}
	for _, spoil := range []func(s *api.Setup){
		func(s *api.Setup) { s.Start = "2026" },
		func(s *api.Setup) { s.Version = "3" },
		func(s *api.Setup) { s.Sides[0].App = "a b" },
		func(s *api.Setup) { s.Sides[0].Marks = api.Marks{} },
		func(s *api.Setup) { s.Sides[1].Every = 0 },
		func(s *api.Setup) { s.Sides[1].Compact = 257 },
		func(s *api.Setup) { s.Profile = "what" },
		func(s *api.Setup) { s.Profile = strings.Repeat(" ", 32769) },
	} {
		s := plainSetup()
		spoil(&s)
		list = append(list, s)
	}
	return list
}

func TestPrintSetupFaults(t *testing.T) {
	for _, wrong := range wrongSetups() {
		_, want := setup.Print(wrong)
		for _, events := range [][]api.Event{nil, {{Kind: api.EvSync}}, {{}}, make([]api.Event, lastLine+1)} {
			s := api.Script{Setup: wrong, Events: events}
			text, at, err := Print(s)
			isOver(t, fmt.Sprint(s), at, err, 0, api.ErrSetup, want)
			seen, err := Run(s)
			isOver(t, fmt.Sprint("Run ", s), 0, err, 0, api.ErrSetup, want)
			if text != "" || seen != nil {
				t.Errorf("%q, %v beside a refusal", text, seen)
			}
		}
	}
}

// A script whose setup could not be told from its events; it can be run all the same.
func TestPrintBlocks(t *testing.T) {
	table := "message ADT A01 = MSH [ PID ] end\ntable 0001 ="
	for profile, is := range map[string]bool{
		"": true, "\n": true, " \n": true,
		" ":                                  false, // the last line has no end
		table + " x ;":                       false,
		table + " events ;\n":                true,
		table + "\nevents\n;\n":              false,
		table + "\nevents\n;":                false,
		table + " x ; #\n#events\nevents":    true, // not a profile: no setup
		table + "\nevents \n;\n":             true,
		table + "\n events\n;\n":             true,
		table + "\nevents\r\n;\n":            true,
		table + "\nsetup\n;\n":               true,
		table + "\nEvents\n;\n":              true,
		table + " x\n;\n# events\n":          true,
		table + "\nA\n;\r\n\r\n":             true,
		table + " x ;\n" + "# the last line": false,
	} {
		s := scriptOf(api.Event{Kind: api.EvSync})
		s.Setup.Profile = profile
		if setup.Check(s.Setup) != nil {
			_, at, err := Print(s)
			isFault(t, profile, at, err, 0, api.ErrSetup)
			continue
		}
		runs(t, s)
		if !is {
			noPrint(t, s, 0, api.ErrBlock)
			s.Events = []api.Event{{}}
			noPrint(t, s, 0, api.ErrBlock)
			continue
		}
		if back := parsed(t, printed(t, s)); back.Setup != s.Setup || len(back.Events) != 1 {
			t.Errorf("%q: %+v", profile, back)
		}
	}
}

func TestPrintFirstWrongEvent(t *testing.T) {
	good, wrong := api.Event{Kind: api.EvSync}, api.Event{Kind: api.EvSync, Count: 1}
	for _, x := range []struct {
		at     int
		events []api.Event
	}{{1, []api.Event{wrong}}, {1, []api.Event{wrong, wrong, good}}, {2, []api.Event{good, wrong}}, {3, []api.Event{good, good, {}, wrong}}} {
		noPrint(t, scriptOf(x.events...), x.at, api.ErrEvent)
		_, err := Run(scriptOf(x.events...))
		isBare(t, "Run", x.at, err, x.at, api.ErrEvent)
	}
}

// syncs gives so many events.
func syncs(count int) []api.Event {
	list := make([]api.Event, count)
	for i := range list {
		list[i].Kind = api.EvSync
	}
	return list
}

func TestPrintTooMany(t *testing.T) {
	s := scriptOf(syncs(lastLine)...)
	if text := printed(t, s); len(text) != len(printed(t, scriptOf()))+lastLine*len("sync 0\n") {
		t.Errorf("%d bytes", len(text))
	}
	runs(t, s)
	for _, more := range []int{1, 2, 5000} {
		s := scriptOf(syncs(lastLine + more)...)
		noPrint(t, s, lastLine+1, api.ErrEvent)
		_, err := Run(s)
		isBare(t, "Run", lastLine+1, err, lastLine+1, api.ErrEvent)
		s.Events[lastLine].Kind = 0
		noPrint(t, s, lastLine+1, api.ErrEvent)
		s.Events[7].Kind = 0
		noPrint(t, s, 8, api.ErrEvent)
	}
}

// rawOf puts that many bytes under way.
func rawOf(count int) api.Event {
	return api.Event{Kind: api.EvRaw, Text: []byte(strings.Repeat("x", count))}
}

func TestPrintTooLong(t *testing.T) {
	t.Parallel()
	rest := len(printed(t, scriptOf(rawOf(0))))
	s := scriptOf(rawOf(longest - rest))
	if text := printed(t, s); len(text) != longest {
		t.Errorf("%d bytes", len(text))
	}
	parsed(t, printed(t, s))
	noPrint(t, scriptOf(rawOf(longest-rest+1)), 0, api.ErrLong)
	noPrint(t, scriptOf(rawOf(longest)), 0, api.ErrLong)
	noPrint(t, scriptOf(rawOf(1<<22), rawOf(1<<22)), 0, api.ErrLong)
	noPrint(t, scriptOf(append(syncs(5), rawOf(longest))...), 0, api.ErrLong)
	// As it is written, and not as it is.
	s.Events[0].Text[9] = 0
	noPrint(t, s, 0, api.ErrLong)
	s.Events[0].Text = s.Events[0].Text[3:]
	if text := printed(t, s); len(text) != longest {
		t.Errorf("%d bytes", len(text))
	}
	// Behind what no line says, and behind the setup's refusals.
	noPrint(t, scriptOf(rawOf(longest), api.Event{}), 2, api.ErrEvent)
	noPrint(t, scriptOf(append([]api.Event{rawOf(longest)}, syncs(lastLine)...)...), lastLine+1, api.ErrEvent)
	s = scriptOf(rawOf(longest))
	s.Setup.Profile = " "
	noPrint(t, s, 0, api.ErrBlock)
	// Run does not ask how long the text would be.
	if seen := runs(t, scriptOf(rawOf(longest))); len(seen[1]) != 1 || seen[1][0].Errno != api.ErrLong {
		t.Errorf("%v", seen)
	}
}
