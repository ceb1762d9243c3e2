package world

import (
	"errors"
	"fmt"
	"slices"
	"strings"
	"testing"

	"courier/api"
	"courier/setup"
)

const (
	lastLine = 4000   // MaxLines
	longest  = 262144 // MaxScript
	area     = 16777216
	top      = 2147483647
	latest   = 1099511627776 // MaxTick
)

// The beginning of DOC.md's examples; its `events` is line 24.
const (
	endpointLines = "facility \"\"\nprocess P\nsequence off\nevery 5\ntries 1\nkeep 1\ncompact 9\n"
	setupText     = "start 20260105000000\nversion 2.5.1\nside a\napp LAB\n" + endpointLines + "side b\napp HIS\n" + endpointLines + "structures\nmessage ADT A01 = MSH [ PID ] end\n"
	head          = "setup\n" + setupText + "events\n"
	headLines     = 24
)

// numbered is that beginning, with sequencing at side a.
func numbered() string { return strings.Replace(head, "sequence off", "sequence on", 1) }

var common = api.Marks{Field: '|', Comp: '^', Rep: '~', Esc: '\\', Sub: '&'}

func plainSetup() api.Setup {
	a := api.Side{App: "LAB", Marks: common, Process: "P", Every: 5, Tries: 1, Keep: 1, Compact: 9}
	b := a
	b.App = "HIS"
	return api.Setup{Start: "20260105000000", Version: "2.5.1", Sides: [2]api.Side{a, b}, Profile: "message ADT A01 = MSH [ PID ] end\n"}
}

func scriptOf(events ...api.Event) api.Script {
	return api.Script{Setup: plainSetup(), Events: events}
}

// message gives the text of one, as it stands in a line: MSH-10, and the words of MSH-15 and MSH-16.
func message(id, conditions string) string {
	return strings.ReplaceAll(strings.ReplaceAll(plainMessage(id, conditions), `\`, `\\`), "\r", `\r`)
}

func plainMessage(id, conditions string) string {
	accept, app, _ := strings.Cut(conditions, " ")
	text := "MSH|^~\\&|LAB||HIS||2026||ADT^A01|" + id + "|P|2.5.1|||" + accept + "|" + app
	return strings.TrimRight(text, "|") + "\r"
}

func framed(text string) string { return `\x0B` + text + `\x1C\r` }

// isFault: the error is this layer's with that number and place.
func isFault(t *testing.T, what string, at int, err error, wantAt int, code api.Errno) *api.Fault {
	t.Helper()
	var f *api.Fault
	if !errors.As(err, &f) || f.Layer != "world" || f.At != wantAt || f.Code != code || at != wantAt {
		t.Fatalf("%.300s: %d, %v; want number %d at %d", what, at, err, code, wantAt)
	}
	return f
}

// isBare: nothing is under it either.
func isBare(t *testing.T, what string, at int, err error, wantAt int, code api.Errno) {
	t.Helper()
	if f := isFault(t, what, at, err, wantAt, code); f.Under != nil || !errors.Is(err, code) {
		t.Fatalf("%.300s: under it %v", what, f.Under)
	}
}

// isOver: under it is just that error.
func isOver(t *testing.T, what string, at int, err error, wantAt int, code api.Errno, under error) {
	t.Helper()
	if f := isFault(t, what, at, err, wantAt, code); under == nil || fmt.Sprintf("%T %v", f.Under, f.Under) != fmt.Sprintf("%T %v", under, under) {
		t.Fatalf("%.300s: under it %v, want %v", what, f.Under, under)
	}
}

func isEmptyScript(s api.Script) bool { return s.Setup == (api.Setup{}) && s.Events == nil }

// noParse: Parse refuses with that, and answers nothing else.
func noParse(t *testing.T, text string, at int, code api.Errno) {
	t.Helper()
	s, got, err := Parse(text)
	isBare(t, fmt.Sprintf("Parse %q", text), got, err, at, code)
	if !isEmptyScript(s) {
		t.Fatalf("Parse %.300q: %v beside a refusal", text, s)
	}
}

// parsed: Parse takes it.
func parsed(t *testing.T, text string) api.Script {
	t.Helper()
	s, at, err := Parse(text)
	if at != 0 || err != nil {
		t.Fatalf("Parse %.2000q: %d, %v", text, at, err)
	}
	return s
}

func printed(t *testing.T, s api.Script) string {
	t.Helper()
	text, at, err := Print(s)
	if at != 0 || err != nil {
		t.Fatalf("Print %.2000s: %d, %v", fmt.Sprint(s), at, err)
	}
	return text
}

func reported(t *testing.T, seen [][]api.Seen) string {
	t.Helper()
	text, at, err := Report(seen)
	if at != 0 || err != nil {
		t.Fatalf("Report %.2000s: %d, %v", fmt.Sprint(seen), at, err)
	}
	return text
}

func reads(t *testing.T, text string) [][]api.Seen {
	t.Helper()
	seen, at, err := Read(text)
	if at != 0 || err != nil {
		t.Fatalf("Read %.2000q: %d, %v", text, at, err)
	}
	return seen
}

func runs(t *testing.T, s api.Script) [][]api.Seen {
	t.Helper()
	seen, err := Run(s)
	if err != nil || len(seen) != len(s.Events)+1 {
		t.Fatalf("Run: %d lists, %v", len(seen), err)
	}
	return seen
}

// eventText and seenText tell all of a thing, an empty list being what none is.
func eventText(e api.Event) string {
	return fmt.Sprintf("%d %d %q %q %q %q %d %d %v", e.Kind, e.Side, e.Text, e.Control, e.Code, fmt.Sprintf("%q", fmt.Sprint(e.Errors)), e.Index, e.Count, e.Tears)
}

func seenText(s api.Seen) string {
	return fmt.Sprintf("%d %d %q %q %d %v %d %q %q %d", s.Kind, s.Side, s.Text, s.Control, s.Number, s.Again, s.State, s.Code, fmt.Sprint(s.Errors), s.Errno)
}

func sameEvents(a, b []api.Event) bool {
	return slices.EqualFunc(a, b, func(x, y api.Event) bool { return eventText(x) == eventText(y) })
}

func sameList(a, b []api.Seen) bool {
	return slices.EqualFunc(a, b, func(x, y api.Seen) bool { return seenText(x) == seenText(y) })
}

func sameLists(a, b [][]api.Seen) bool { return slices.EqualFunc(a, b, sameList) }

// plays: a script's lines have this report behind the beginning's two lines.
func plays(t *testing.T, beginning string, script string, report string) {
	t.Helper()
	script, report = strings.TrimLeft(script, "\n"), strings.TrimLeft(report, "\n")
	want := "0 up 0\n0 up 1\n" + report
	got := Play(beginning + script)
	if got != want {
		t.Fatalf("%.3000s: the report is\n%.3000s\nwant\n%.3000s", script, got, want)
	}
	if at, err := Check(beginning+script, got); at != 0 || err != nil {
		t.Fatalf("%.3000s: Check: %d, %v", script, at, err)
	}
}

// seeds are so many beginnings of what is left to chance, few in a short test.
func seeds(most int) int {
	if testing.Short() {
		return most / 10
	}
	return most
}

func setupOfText(t *testing.T, text string) api.Setup {
	t.Helper()
	s, err := setup.Parse(text)
	if err != nil {
		t.Fatal(err)
	}
	return s
}
