package setup

import (
	"math"
	"strings"
	"testing"

	"courier/api"
)

// P1702: which setups Check takes, and which field is the first that it does not. P1704: Default.

var (
	badNames  = []string{"a b", "#", "é", "\x00", `""`, `"`, "a\n", " ", "a|", "-,", strings.Repeat("x", 21), strings.Repeat("x", 65), strings.Repeat("x", 10000), "\xFF"}
	goodNames = []string{"a", "_", ".", "-", "0", "LAB", strings.Repeat("Z", 20), "side", "A-b_c.9"}
)

func numbers(list ...int) []int { return append(list, math.MinInt, math.MaxInt, -1) }

// fields are values for each field, by its number, that are right and that are not. Of a side the numbers are those of side 0.
var fields = []struct {
	at   int
	good func(s *api.Setup, side *api.Side) []func()
	bad  func(s *api.Setup, side *api.Side) []func()
}{
	{1, func(s *api.Setup, _ *api.Side) []func() {
		return setting(&s.Start, "00010101000000", "99991231235959", "20240229235959")
	}, func(s *api.Setup, _ *api.Side) []func() {
		return setting(&s.Start, "", "2026", "2026010500", "20260105000000.0", "20260105000000+0000", "00000101000000", "20230229000000", "20260105000000 ", strings.Repeat("2", 9999), `""`)
	}},
	{2, func(s *api.Setup, _ *api.Side) []func() {
		return setting(&s.Version, "2.1", "2.2", "2.3", "2.3.1", "2.4", "2.5", "2.5.1")
	}, func(s *api.Setup, _ *api.Side) []func() {
		return setting(&s.Version, "", "2", "2.6", "2.5.2", " 2.5", "2.5\n", `""`, "2.1 2.2", strings.Repeat("2.5", 9999))
	}},
	{3, func(_ *api.Setup, side *api.Side) []func() { return setting(&side.App, goodNames...) },
		func(_ *api.Setup, side *api.Side) []func() {
			return setting(&side.App, append([]string{""}, badNames...)...)
		}},
	{4, func(_ *api.Setup, side *api.Side) []func() {
		return setting(&side.Facility, append([]string{""}, goodNames...)...)
	}, func(_ *api.Setup, side *api.Side) []func() { return setting(&side.Facility, badNames...) }},
	{5, func(_ *api.Setup, side *api.Side) []func() {
		return setting(&side.Marks, marksOf(`|^~\&`), marksOf(`"#\'!`), marksOf("`{~_."))
	}, func(_ *api.Setup, side *api.Side) []func() {
		return setting(&side.Marks, api.Marks{}, marksOf(`||~\&`), marksOf(`|^~\|`), marksOf(`A^~\&`), marksOf(`|^~\ `), marksOf("|^\n\\&"), marksOf("|\xFF~\\&"), marksOf(`|^~1&`))
	}},
	{6, func(_ *api.Setup, side *api.Side) []func() { return setting(&side.Process, "P", "D", "T") },
		func(_ *api.Setup, side *api.Side) []func() {
			return setting(&side.Process, "", "p", "PD", "P ", "A", `""`, "D P T", strings.Repeat("P", 9999))
		}},
	{7, func(_ *api.Setup, side *api.Side) []func() { return setting(&side.Every, 1, 2, 9999, 10000) },
		func(_ *api.Setup, side *api.Side) []func() {
			return setting(&side.Every, numbers(0, 10001, 1<<32+1)...)
		}},
	{8, func(_ *api.Setup, side *api.Side) []func() { return setting(&side.Tries, 0, 1, 15, 16) },
		func(_ *api.Setup, side *api.Side) []func() { return setting(&side.Tries, numbers(17, 1<<32)...) }},
	{9, func(_ *api.Setup, side *api.Side) []func() { return setting(&side.Keep, 1, 2, 63, 64) },
		func(_ *api.Setup, side *api.Side) []func() { return setting(&side.Keep, numbers(0, 65, 1<<32+1)...) }},
	{10, func(_ *api.Setup, side *api.Side) []func() { return setting(&side.Compact, 1, 2, 255, 256) },
		func(_ *api.Setup, side *api.Side) []func() {
			return setting(&side.Compact, numbers(0, 257, 1<<32+1)...)
		}},
}

// setting are functions that put each of these values there.
func setting[T any](to *T, values ...T) []func() {
	var list []func()
	for _, v := range values {
		list = append(list, func() { *to = v })
	}
	return list
}

var badProfiles = []string{"x", "table", "\x00", "message A B = PID end", "message A B = MSH { [ PID ] } end", strings.Repeat(" ", api.MaxProfile+1), strings.Repeat("\n", 65537)}

// everyField calls f for each of the fields 1 to 18 with each of its values in a setup that is right else; spoil makes all fields behind it wrong.
func everyField(bad bool, f func(s api.Setup, at int, spoil func(s *api.Setup))) {
	for side := range 2 {
		for i, x := range fields {
			if side == 1 && x.at < 3 {
				continue
			}
			list := x.good
			if bad {
				list = x.bad
			}
			s := exampleSetup()
			for _, set := range list(&s, &s.Sides[side]) {
				set()
				f(s, x.at+8*side, func(s *api.Setup) {
					for later := side; later < 2; later++ {
						for j, y := range fields {
							if later == side && j > i || later > side && y.at > 2 {
								y.bad(s, &s.Sides[later])[0]()
							}
						}
					}
					s.Profile = badProfiles[0]
				})
			}
		}
	}
}

func TestP1702Good(t *testing.T) {
	everyField(false, func(s api.Setup, at int, _ func(*api.Setup)) {
		for _, s.Sides[0].Sequence = range []bool{true, false} {
			if err := Check(s); err != nil {
				t.Errorf("field %d: %v of %+v", at, err, s)
			}
			text, err := Print(s)
			if err != nil {
				t.Errorf("field %d: Print: %v", at, err)
			}
			says(t, text, s)
		}
	})
	for _, text := range append([]string{strings.Repeat(" ", api.MaxProfile)}, someProfiles...) {
		s := exampleSetup()
		s.Profile = text
		if err := Check(s); err != nil {
			t.Errorf("profile %.100q: %v", text, err)
		}
	}
}

// TestP1702Bad: each field that is not so, alone and with all behind it; Print refuses likewise.
func TestP1702Bad(t *testing.T) {
	both := func(s api.Setup, at int) {
		t.Helper()
		refused(t, "Check", Check(s), api.ErrSetup, at)
		text, err := Print(s)
		refused(t, "Print", err, api.ErrSetup, at)
		if text != "" {
			t.Errorf("field %d: %q beside a refusal", at, text)
		}
	}
	counted := map[int]int{}
	everyField(true, func(s api.Setup, at int, spoil func(*api.Setup)) {
		counted[at]++
		both(s, at)
		spoil(&s)
		both(s, at)
	})
	for at := 1; at <= 18; at++ {
		if counted[at] < 4 {
			t.Errorf("field %d: %d values", at, counted[at])
		}
	}
	for _, text := range badProfiles {
		s := exampleSetup()
		s.Profile = text
		both(s, 19) // nothing is under it
	}
	both(api.Setup{}, 1)
	s := api.Setup{Start: "20260105000000"}
	both(s, 2)
	s.Version = "2.5"
	both(s, 3)
	s.Sides[0] = exampleSetup().Sides[0]
	both(s, 11)
	s.Sides[1] = exampleSetup().Sides[1]
	if err := Check(s); err != nil {
		t.Errorf("Check: %v", err)
	}
}

// TestP1702Same: Check takes what Parse tells, and what it takes Parse tells for some text.
func TestP1702Same(t *testing.T) {
	for _, names := range [][]string{goodNames, badNames, {""}} {
		for _, name := range names {
			s := exampleSetup()
			s.Sides[1].App, s.Sides[1].Facility = name, name
			_, err := Parse(with(14, "app "+quotedWord(name)))
			if apart := Check(api.Setup{Start: s.Start, Version: s.Version, Sides: [2]api.Side{s.Sides[0], {App: name}}}); (err == nil) != (apart.(*api.Fault).At > 11) {
				t.Errorf("app %.30q: Parse says %v, Check %v", name, err, apart)
			}
			_, err = Parse(with(15, "facility "+quotedWord(name)))
			s.Sides[1].App = "x"
			if no := Check(s); (err == nil) != (no == nil) {
				t.Errorf("facility %.30q: Parse says %v, Check %v", name, err, no)
			}
		}
	}
}

func TestP1704Default(t *testing.T) {
	want := api.Side{
		Marks: api.Marks{Field: '|', Comp: '^', Rep: '~', Esc: '\\', Sub: '&'}, Process: "P",
		Every: 10, Tries: 3, Keep: 16, Compact: 64,
	}
	for _, app := range goodNames {
		for _, facility := range append([]string{""}, goodNames...) {
			want.App, want.Facility = app, facility
			side, err := Default(app, facility)
			if err != nil || side != want {
				t.Errorf("Default(%q, %q): %+v, %v", app, facility, side, err)
			}
			if err := Check(api.Setup{Start: "20260105000000", Version: "2.5.1", Sides: [2]api.Side{side, side}}); err != nil {
				t.Errorf("Check of Default(%q, %q): %v", app, facility, err)
			}
		}
		for _, facility := range badNames {
			noDefault(t, app, facility, 2)
		}
	}
	for _, app := range append([]string{""}, badNames...) {
		for _, facility := range append([]string{"", "x"}, badNames...) {
			noDefault(t, app, facility, 1)
		}
	}
}

func noDefault(t *testing.T, app, facility string, at int) {
	t.Helper()
	side, err := Default(app, facility)
	refused(t, app+" "+facility, err, api.ErrLine, at)
	if side != (api.Side{}) {
		t.Errorf("%+v beside a refusal", side)
	}
}
