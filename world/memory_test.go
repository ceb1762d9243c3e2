package world

import (
	"fmt"
	"math"
	"slices"
	"strings"
	"testing"
	"unsafe"

	"courier/api"
)

// DOC.md's Memory, of this layer: what is handed in, and what is answered.

// roomy gives a list with room behind it, full of something.
func roomyText(p []byte) []byte {
	all := append(slices.Clone(p), "room behind"...)
	return all[:len(p)]
}

func roomyFindings(list []api.Finding) []api.Finding {
	all := append(slices.Clone(list), api.Finding{Code: 7, Seg: "room"})
	return all[:len(list)]
}

// whole tells all that a list of events is, room behind its ends too.
func wholeEvents(list []api.Event) string {
	text := ""
	for _, e := range list[:cap(list)] {
		text += eventText(e) + fmt.Sprintf("%q %v\n", e.Text[:cap(e.Text)], e.Errors[:cap(e.Errors)])
	}
	return text
}

func wholeSeen(lists [][]api.Seen) string {
	text := ""
	for _, list := range lists[:cap(lists)] {
		text += "list\n"
		for _, s := range list[:cap(list)] {
			text += seenText(s) + fmt.Sprintf("%q %v\n", s.Text[:cap(s.Text)], s.Errors[:cap(s.Errors)])
		}
	}
	return text
}

// spoil writes over all that a list of lists holds, room behind its ends too.
func spoilSeen(lists [][]api.Seen) {
	for _, list := range lists[:cap(lists)] {
		list = list[:cap(list)]
		for i := range list {
			spoilBytes(list[i].Text)
			spoilFindings(list[i].Errors)
			list[i] = api.Seen{Kind: 77}
		}
	}
}

func spoilEvents(list []api.Event) {
	list = list[:cap(list)]
	for i := range list {
		spoilBytes(list[i].Text)
		spoilFindings(list[i].Errors)
		list[i] = api.Event{Kind: 77}
	}
}

func spoilBytes(p []byte) {
	p = p[:cap(p)]
	for i := range p {
		p[i] = 0x1c
	}
}

func spoilFindings(list []api.Finding) {
	list = list[:cap(list)]
	for i := range list {
		list[i] = api.Finding{Code: -1, Seg: "spoilt"}
	}
}

// spans are where things lie in memory.
type spans map[uintptr]string

// has notes a piece of memory, and fails where another one is within it.
func (s spans) has(t *testing.T, what string, from unsafe.Pointer, size int) {
	t.Helper()
	if size == 0 {
		return
	}
	at := uintptr(from)
	for other := range s {
		if at < other && other < at+uintptr(size) {
			t.Fatalf("%s holds %s", what, s[other])
		}
	}
	if s[at] != "" {
		t.Fatalf("%s is %s", what, s[at])
	}
	s[at] = what
}

func spanOf[T any](t *testing.T, s spans, what string, list []T) {
	t.Helper()
	var one T
	if cap(list) > 0 {
		s.has(t, what, unsafe.Pointer(unsafe.SliceData(list)), cap(list)*int(unsafe.Sizeof(one)))
	}
}

func (s spans) seen(t *testing.T, what string, lists [][]api.Seen) {
	t.Helper()
	spanOf(t, s, what, lists)
	for n, list := range lists[:cap(lists)] {
		spanOf(t, s, fmt.Sprintf("%s's list %d", what, n), list)
		for i, x := range list[:cap(list)] {
			spanOf(t, s, fmt.Sprintf("%s's text %d of %d", what, i, n), x.Text)
			spanOf(t, s, fmt.Sprintf("%s's findings %d of %d", what, i, n), x.Errors)
		}
	}
}

func (s spans) events(t *testing.T, what string, list []api.Event) {
	t.Helper()
	spanOf(t, s, what, list)
	for i, x := range list[:cap(list)] {
		spanOf(t, s, fmt.Sprintf("%s's text %d", what, i), x.Text)
		spanOf(t, s, fmt.Sprintf("%s's findings %d", what, i), x.Errors)
	}
}

func TestMemoryOfScripts(t *testing.T) {
	for seed := range seeds(20) {
		c := chanced(9001, uint64(seed), tastes[seed%len(tastes)], 60)
		text := printed(t, c.script())
		first, second := parsed(t, text), parsed(t, text)
		places := spans{}
		places.events(t, "the first", first.Events)
		places.events(t, "the second", second.Events)
		spoilEvents(first.Events)
		if third := parsed(t, text); !sameEvents(second.Events, c.lines) || !sameEvents(third.Events, c.lines) {
			t.Fatal("they share memory")
		}
		m := newMaker(9001, uint64(seed))
		var events []api.Event
		for range 10 {
			events = append(events, m.event())
		}
		want := slices.Clone(events)
		back := parsed(t, printed(t, scriptOf(events...)))
		spoilEvents(back.Events)
		if !sameEvents(events, want) {
			t.Fatal("what was printed is changed")
		}
	}
}

// What Print, Run and Report are given stays as it is, and may be written over behind the call.
func TestMemoryOfArguments(t *testing.T) {
	for seed := range seeds(20) {
		c := chanced(9002, uint64(seed), tastes[seed%len(tastes)], 60)
		text, report := printed(t, c.script()), reported(t, c.told)
		given := slices.Clone(c.lines)
		for i := range given {
			given[i].Text, given[i].Errors = roomyText(given[i].Text), roomyFindings(given[i].Errors)
		}
		s := api.Script{Setup: c.r.setup, Events: append(given, api.Event{Kind: 78})[:len(given)]}
		before := wholeEvents(s.Events)
		first := printed(t, s)
		told := runs(t, s)
		places := spans{}
		places.seen(t, "the answer", told)
		places.events(t, "the events", s.Events)
		if wholeEvents(s.Events) != before || first != text || !sameLists(told, c.told) {
			t.Fatal("what was handed in is changed")
		}
		spoilEvents(s.Events)
		if !sameLists(told, c.told) || first != text {
			t.Fatal("what was handed in is kept")
		}

		for n := range told {
			for i := range told[n] {
				x := &told[n][i]
				x.Text, x.Errors = roomyText(x.Text), roomyFindings(x.Errors)
			}
			told[n] = append(told[n], api.Seen{Kind: 78})[:len(told[n])]
		}
		told = append(told, []api.Seen{{Kind: 79}})[:len(told)]
		whole := wholeSeen(told)
		written := reported(t, told)
		if wholeSeen(told) != whole || written != report {
			t.Fatal("what was handed in is changed")
		}
		spoilSeen(told)
		if again := reported(t, c.told); again != report || written != report {
			t.Fatal("what was handed in is kept")
		}
	}
}

// No two answers share anything, nor does one within itself.
func TestMemoryOfAnswers(t *testing.T) {
	for seed := range seeds(20) {
		c := chanced(9003, uint64(seed), tastes[seed%len(tastes)], 60)
		s, report := c.script(), reported(t, c.told)
		first, second := runs(t, s), runs(t, s)
		third, fourth := reads(t, report), reads(t, report)
		places := spans{}
		for i, lists := range [][][]api.Seen{first, second, third, fourth} {
			places.seen(t, fmt.Sprint("answer ", i), lists)
		}
		spoilSeen(first)
		spoilSeen(third)
		if fifth := runs(t, s); !sameLists(second, c.told) || !sameLists(fifth, c.told) || reported(t, fourth) != report || reported(t, reads(t, report)) != report {
			t.Fatal("they share memory")
		}
	}
}

// A run whose answers are written over, list by list, goes on as it was.
func TestMemoryOfRuns(t *testing.T) {
	for seed := range seeds(20) {
		c := chanced(9004, uint64(seed), tastes[seed%len(tastes)], 80)
		r, seen := begin(c.r.setup)
		for i, e := range c.lines {
			if !sameList(seen, c.told[i]) {
				t.Fatalf("event %d", i)
			}
			spoilSeen([][]api.Seen{seen})
			e.Text, e.Errors = roomyText(e.Text), roomyFindings(e.Errors)
			seen = r.play(e)
			spoilEvents([]api.Event{e})
		}
		if !sameList(seen, c.told[len(c.lines)]) {
			t.Fatal("the last one")
		}
	}
}

// No call panics, whatever it is given.
func TestNoPanics(t *testing.T) {
	for seed := range seeds(400) {
		m := newMaker(9005, uint64(seed))
		wild := func() int { return pick(m, math.MinInt, -1, 0, 1, 2, 3, 77, math.MaxInt, m.IntN(20)) }
		var events []api.Event
		var told [][]api.Seen
		for range m.IntN(5) {
			events = append(events, api.Event{
				Kind: api.EventKind(wild()), Side: wild(), Text: m.bytes(), Control: string(m.bytes()), Code: string(m.bytes()),
				Errors: []api.Finding{{Code: wild(), Seg: string(m.bytes()), Occur: wild()}}, Index: wild(), Count: wild(), Tears: [2]api.Tear{{Keep: wild(), Zeros: wild()}},
			}, m.event())
			told = append(told, []api.Seen{{
				Kind: api.SeenKind(wild()), Side: wild(), Text: m.bytes(), Control: string(m.bytes()), Number: wild(), Again: m.IntN(2) == 0, State: wild(),
				Code: string(m.bytes()), Errors: []api.Finding{{Code: wild(), Sub: wild()}}, Errno: api.Errno(wild()),
			}, m.seen()}, nil)
		}
		s := api.Script{Setup: api.Setup{Start: string(m.bytes()), Profile: string(m.bytes())}, Events: events}
		if m.IntN(2) == 0 {
			s.Setup = plainSetup()
		}
		Print(s)
		Run(s)
		Report(told)
		script, report := []byte(head+secondEventLine(m.event())+"\n"+secondEventLine(m.event())+"\n"), []byte("0 up 0\n"+secondSeenLine(1, m.seen())+"\n")
		for _, text := range [][]byte{script, report} {
			for range m.IntN(4) {
				text[m.IntN(len(text))] = pick(m, byte(m.IntN(256)), '\n', ' ', '"', '\\')
			}
		}
		Parse(string(script))
		Read(string(report))
		Play(string(script))
		Check(string(script), string(report))
		Check(head, string(report))
	}
	for _, text := range []string{"", "\n", "\"", "\\", " ", "events", "setup\nevents\n", strings.Repeat("\n", 1<<20), strings.Repeat("\"", 1<<20), "0 out 0 \"", "0 out 0 \"\\", "0 out 0 \"\\\"", "0 out 0 \"\\x", "0 out 0 \"\\x\"", "0", " 0"} {
		Parse(text)
		Parse(head + text)
		Read(text)
		Play(text)
		Play(head + text)
		Check(text, text)
		Check(head, text)
	}
	var none api.Script
	Print(none)
	Run(none)
	Report(nil)
}
