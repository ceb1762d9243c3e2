package world

import (
	"errors"
	"fmt"
	"math/rand/v2"
	"strconv"
	"strings"
	"sync"
	"testing"

	"courier/api"
	"courier/setup"
)

// P2207 to P2210, W1 and W7, over scripts of all kinds of events.

// tastes are those of which runs are made.
var tastes = []taste{{harm: 2}, {}, {harm: 6}, {harm: 2, calm: true, unlike: true}, {harm: 1, still: true}}

// allScripts calls f for scripts by chance.
func allScripts(t *testing.T, one uint64, most, events int, f func(t *testing.T, c *chance)) {
	for seed := range seeds(most) {
		t.Run(strconv.Itoa(seed), func(t *testing.T) {
			t.Parallel()
			f(t, chanced(one, uint64(seed), tastes[seed%len(tastes)], events))
		})
	}
}

// W1, P2209: what is played is found right, and what is not is not.
func TestW1(t *testing.T) {
	allScripts(t, 2209, 300, 150, func(t *testing.T, c *chance) {
		text := printed(t, c.script())
		report := Play(text)
		if report != reported(t, c.told) {
			t.Fatalf("%s\n%s", text, report)
		}
		if at, err := Check(text, report); err != nil && !errors.Is(err, api.ErrWays) || (at == 0) != (err == nil) {
			t.Fatalf("%d, %v\n%s\n%s", at, err, text, report)
		}
	})
}

// Where nothing crashes no thing that was seen may be missing, or come twice, or come a step earlier or later.
func TestW1OtherReports(t *testing.T) {
	t.Parallel()
	for seed := range seeds(30) {
		c := chanced(22091, uint64(seed), taste{calm: seed%2 == 0}, 45)
		text := printed(t, c.script())
		isWrong := func(told [][]api.Seen, at int) {
			t.Helper()
			report := reported(t, told)
			if got, err := Check(text, report); got != at || !errors.Is(err, api.ErrTrace) {
				t.Fatalf("event %d: %d, %v\n%s\n%s", at, got, err, text, report)
			}
		}
		for at, list := range c.told {
			for i := range list {
				told := append([][]api.Seen{}, c.told...)
				told[at] = append(append([]api.Seen{}, list[:i+1]...), list[i:]...)
				isWrong(told, at)
				told[at] = append(append([]api.Seen{}, list[:i]...), list[i+1:]...)
				isWrong(told, at)
			}
			if len(list) > 0 && at > 1 {
				told := append([][]api.Seen{}, c.told...)
				told[at-1], told[at] = append(append([]api.Seen{}, told[at-1]...), list[0]), list[1:]
				isWrong(told, at-1)
			}
			if len(list) > 0 && at > 0 && at < len(c.told)-1 {
				told := append([][]api.Seen{}, c.told...)
				told[at], told[at+1] = list[:len(list)-1], append([]api.Seen{list[len(list)-1]}, told[at+1]...)
				isWrong(told, at)
			}
		}
	}
}

// P2207: there and back.
func TestP2207(t *testing.T) {
	allScripts(t, 2207, 100, 80, func(t *testing.T, c *chance) {
		s := c.script()
		text := printed(t, s)
		back := parsed(t, text)
		if back.Setup != s.Setup || !sameEvents(back.Events, s.Events) {
			t.Fatalf("%v\nback %v", s, back)
		}
		if printed(t, back) != text {
			t.Fatalf("%q", text)
		}
		// Another text of the same script has the same one form.
		other := "setup\n# a comment\n\n" + strings.Replace(strings.TrimPrefix(text, "setup\n"), "app LAB", "app   \"LAB\" # here", 1)
		other = strings.TrimSuffix(other, "\n")
		if printed(t, parsed(t, other)) != text || Play(other) != Play(text) {
			t.Fatalf("%q", other)
		}
		seen := runs(t, s)
		report := reported(t, seen)
		got := reads(t, report)
		for len(seen) > len(got) && len(seen[len(seen)-1]) == 0 {
			seen = seen[:len(seen)-1]
		}
		if !sameLists(got, seen) || reported(t, got) != report {
			t.Fatalf("%v\nback %v", seen, got)
		}
	})
	for seed := range seeds(100) {
		m := newMaker(22071, uint64(seed))
		s := scriptOf()
		for range m.IntN(40) {
			s.Events = append(s.Events, m.event())
		}
		text := printed(t, s)
		back := parsed(t, text)
		if back.Setup != s.Setup || !sameEvents(back.Events, s.Events) || printed(t, back) != text {
			t.Fatalf("%v\nback %v", s, back)
		}
	}
}

// anySetups are the setups of layer 17, as far as the runs by chance do not have them.
func TestP2207Setups(t *testing.T) {
	for seed := range 50 {
		c := rand.New(rand.NewPCG(22072, uint64(seed)))
		s := api.Script{Setup: anySetup(c)}
		s.Setup.Start, s.Setup.Version = "00010101000000", []string{"2.1", "2.5.1"}[c.IntN(2)]
		s.Setup.Sides[c.IntN(2)].Marks = api.Marks{Field: '"', Comp: '#', Rep: '\\', Esc: '~', Sub: '!'}
		if setup.Check(s.Setup) != nil {
			t.Fatal(s.Setup)
		}
		text := printed(t, s)
		if back := parsed(t, text); back.Setup != s.Setup || printed(t, back) != text {
			t.Fatalf("%v\nback %v", s, back)
		}
	}
}

// P2208: a script's beginning has the beginning of its report.
func TestP2208(t *testing.T) {
	allScripts(t, 2208, 60, 100, func(t *testing.T, c *chance) {
		all := runs(t, c.script())
		if !sameLists(all, c.told) {
			t.Fatal("another run")
		}
		for _, count := range []int{0, 1, 2, c.IntN(101), c.IntN(101), c.IntN(101), 99, 100} {
			s := c.script()
			s.Events = s.Events[:count]
			if got := runs(t, s); !sameLists(got, all[:count+1]) {
				t.Fatalf("of %d events: %v\nwant %v", count, got, all[:count+1])
			}
		}
	})
}

// W7, P2210: one text, one report, whatever else is played at the time and was played ahead.
func TestW7(t *testing.T) {
	var texts, reports []string
	for seed := range seeds(40) {
		c := chanced(2210, uint64(seed), tastes[seed%len(tastes)], 80)
		texts = append(texts, printed(t, c.script()))
		reports = append(reports, Play(texts[seed]))
	}
	var all sync.WaitGroup
	wrong := make([]string, len(texts))
	for i := range texts {
		all.Go(func() {
			for k := range 3 {
				at := (i + k*7) % len(texts)
				if got := Play(texts[at]); got != reports[at] {
					wrong[i] = fmt.Sprintf("%s\n%s\nwant\n%s", texts[at], got, reports[at])
				}
				if _, err := Check(texts[at], reports[at]); err != nil && !errors.Is(err, api.ErrWays) {
					wrong[i] = err.Error()
				}
			}
		})
	}
	all.Wait()
	for _, text := range wrong {
		if text != "" {
			t.Error(text)
		}
	}
}

// Two runs beside one another, event by event in turn.
func TestP2210BesideOneAnother(t *testing.T) {
	for seed := range seeds(30) {
		one, two := chanced(22101, uint64(seed), tastes[0], 80), chanced(22102, uint64(seed), tastes[2], 80)
		first, a := begin(one.r.setup)
		second, b := begin(two.r.setup)
		told := [2][][]api.Seen{{a}, {b}}
		for i := range one.lines {
			told[0] = append(told[0], first.play(one.lines[i]))
			told[1] = append(told[1], second.play(two.lines[i]))
		}
		if !sameLists(told[0], one.told) || !sameLists(told[1], two.told) {
			t.Fatalf("seed %d", seed)
		}
	}
}
