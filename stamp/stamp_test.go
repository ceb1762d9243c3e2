package stamp

import (
	"math"
	"math/rand"
	"testing"
	"time"

	"courier/api"
)

// wrongStamps: one step beyond each edge of a right Stamp.
func wrongStamps() []api.Stamp {
	second := api.Stamp{Level: 6, Year: 2023, Month: 2, Day: 28, Hour: 23, Minute: 59, Second: 59}
	part := second
	part.Level, part.Part, part.Digits = 7, 99, 2
	var out []api.Stamp
	change := func(from api.Stamp, f func(s *api.Stamp)) {
		f(&from)
		out = append(out, from)
	}
	change(second, func(s *api.Stamp) { *s = api.Stamp{} })
	change(second, func(s *api.Stamp) { s.Level = -1 })
	change(part, func(s *api.Stamp) { s.Level = 8 })
	change(second, func(s *api.Stamp) { s.Level = 5 })
	change(second, func(s *api.Stamp) { s.Level = 7 })
	change(part, func(s *api.Stamp) { s.Level = 6 })
	for _, n := range []int{0, -1, 10000, math.MinInt, math.MaxInt} {
		change(second, func(s *api.Stamp) { s.Year = n })
	}
	for _, n := range []int{0, -1, 13, math.MinInt, math.MaxInt} {
		change(second, func(s *api.Stamp) { s.Month = n })
	}
	for _, n := range []int{0, -1, 29, 32, math.MinInt, math.MaxInt} {
		change(second, func(s *api.Stamp) { s.Day = n })
	}
	for _, n := range []int{-1, 60, math.MinInt, math.MaxInt} {
		change(second, func(s *api.Stamp) { s.Minute = n })
		change(second, func(s *api.Stamp) { s.Second = n })
	}
	change(second, func(s *api.Stamp) { s.Hour = -1 })
	change(second, func(s *api.Stamp) { s.Hour = 24 })
	change(second, func(s *api.Stamp) { s.Part = 1 })
	change(second, func(s *api.Stamp) { s.Digits = 1 })
	for _, n := range []int{-1, 100, math.MinInt, math.MaxInt} {
		change(part, func(s *api.Stamp) { s.Part = n })
	}
	for _, n := range []int{-1, 0, 1, 5, math.MinInt, math.MaxInt} {
		change(part, func(s *api.Stamp) { s.Digits = n })
	}
	for _, n := range []int{-1, 1} {
		change(second, func(s *api.Stamp) { s.Zone = n })
	}
	for _, n := range []int{-841, 841, math.MinInt, math.MaxInt} {
		change(second, func(s *api.Stamp) { s.Zoned, s.Zone = true, n })
	}
	for level := 1; level <= 6; level++ {
		numbers := func(s *api.Stamp) []*int {
			return []*int{&s.Month, &s.Day, &s.Hour, &s.Minute, &s.Second, &s.Part, &s.Digits}
		}
		for i := level - 1; i < 7; i++ {
			s := api.Stamp{Level: level, Year: 2023}
			for k := range level - 1 {
				*numbers(&s)[k] = 1
			}
			*numbers(&s)[i] = 1
			out = append(out, s)
		}
	}
	return out
}

// P102, P104, P105, P107, P108: a Stamp that is not right is refused everywhere, and nothing is told beside.
func TestWrongStamps(t *testing.T) {
	good := mustParse(t, "20240229235959")
	for _, s := range wrongStamps() {
		text, err := Print(s)
		wantFault(t, "Print", err, 0, api.ErrStamp)
		n, err := Instant(s)
		wantFault(t, "Instant", err, 0, api.ErrStamp)
		first, last, err := Span(s)
		wantFault(t, "Span", err, 0, api.ErrStamp)
		if text != "" || n != 0 || first != 0 || last != 0 {
			t.Errorf("of %+v: %q, %d, %d, %d beside an error", s, text, n, first, last)
		}
		_, err = Compare(s, good)
		wantFault(t, "Compare", err, 0, api.ErrStamp)
		_, err = Compare(good, s)
		wantFault(t, "Compare", err, 1, api.ErrStamp)
		_, err = Compare(s, s)
		wantFault(t, "Compare", err, 0, api.ErrStamp)
		_, err = Ticks(s, good)
		wantFault(t, "Ticks", err, 0, api.ErrStamp)
		_, err = Ticks(good, s)
		wantFault(t, "Ticks", err, 1, api.ErrStamp)
		_, err = Ticks(s, s)
		wantFault(t, "Ticks", err, 0, api.ErrStamp)
		_, err = At(s, -1)
		wantFault(t, "At", err, 0, api.ErrStamp)
		if t.Failed() {
			t.Fatalf("of %+v", s)
		}
	}
}

// P102: the texts of Stamps that no text made.
func TestPrint(t *testing.T) {
	for want, s := range map[string]api.Stamp{
		"0001":                     {Level: 1, Year: 1},
		"0987+0000":                {Level: 1, Year: 987, Zoned: true},
		"202402-0001":              {Level: 2, Year: 2024, Month: 2, Zoned: true, Zone: -1},
		"20240229-1400":            {Level: 3, Year: 2024, Month: 2, Day: 29, Zoned: true, Zone: -840},
		"2024022900":               {Level: 4, Year: 2024, Month: 2, Day: 29},
		"202402290005":             {Level: 5, Year: 2024, Month: 2, Day: 29, Minute: 5},
		"20240229000007":           {Level: 6, Year: 2024, Month: 2, Day: 29, Second: 7},
		"99991231235959.0007+1359": {Level: 7, Year: 9999, Month: 12, Day: 31, Hour: 23, Minute: 59, Second: 59, Part: 7, Digits: 4, Zoned: true, Zone: 839},
		"99991231235959.0":         {Level: 7, Year: 9999, Month: 12, Day: 31, Hour: 23, Minute: 59, Second: 59, Digits: 1},
	} {
		if text, err := Print(s); err != nil || text != want {
			t.Errorf("Print(%+v): %q, %v, want %q", s, text, err, want)
		}
	}
}

// anyStamp: a right Stamp of any kind.
func anyStamp(r *rand.Rand) api.Stamp {
	s := api.Stamp{Level: 1 + r.Intn(7), Year: 1 + r.Intn(9999)}
	if r.Intn(4) == 0 {
		s.Year = []int{1, 4, 100, 400, 1900, 2000, 9999}[r.Intn(7)]
	}
	if s.Level >= 2 {
		s.Month = 1 + r.Intn(12)
	}
	if s.Level >= 3 {
		s.Day = 1 + r.Intn(time.Date(s.Year, time.Month(s.Month+1), 0, 0, 0, 0, 0, time.UTC).Day())
	}
	if s.Level >= 4 {
		s.Hour = r.Intn(24)
	}
	if s.Level >= 5 {
		s.Minute = r.Intn(60)
	}
	if s.Level >= 6 {
		s.Second = r.Intn(60)
	}
	if s.Level == 7 {
		s.Digits = 1 + r.Intn(4)
		s.Part = r.Intn(int(math.Pow10(s.Digits)))
	}
	if r.Intn(2) == 0 {
		s.Zoned, s.Zone = true, r.Intn(1681)-840
	}
	return s
}

// instantByLibrary counts a stamp's instant by another calendar's hands.
func instantByLibrary(s api.Stamp) int64 {
	year := time.Date(s.Year, time.Month(max(s.Month, 1)), max(s.Day, 1), s.Hour, s.Minute, s.Second, 0, time.UTC)
	t := (year.Unix() + 62135596800) * 10000
	if s.Level == 7 {
		t += int64(s.Part) * int64(math.Pow10(4-s.Digits))
	}
	return t - int64(s.Zone)*600000
}

// endByLibrary counts the beginning of the next stamp of the same kind.
func endByLibrary(s api.Stamp) int64 {
	n := s
	n.Month, n.Day = max(n.Month, 1), max(n.Day, 1)
	switch s.Level {
	case 1:
		n.Year++
	case 2:
		n.Month++
	case 3:
		n.Day++
	case 4:
		n.Hour++
	case 5:
		n.Minute++
	case 6:
		n.Second++
	case 7:
		n.Part++
	}
	return instantByLibrary(n)
}

// P109: Print and Parse undo each other, within 24 bytes. P104, P105: against another calendar.
func TestAnyStamp(t *testing.T) {
	r := rand.New(rand.NewSource(1))
	for range 50000 {
		s := anyStamp(r)
		text, err := Print(s)
		if back, e := Parse(text); err != nil || e != nil || back != s || len(text) > 24 {
			t.Fatalf("%+v: %q, %v; %+v, %v", s, text, err, back, e)
		}
		n, err := Instant(s)
		if want := instantByLibrary(s); err != nil || n != want {
			t.Fatalf("Instant of %s: %d, %v, want %d", text, n, err, want)
		}
		first, last, err := Span(s)
		if err != nil || first != n || last != endByLibrary(s)-1 {
			t.Fatalf("Span of %s: %d, %d, %v, want %d, %d", text, first, last, err, n, endByLibrary(s)-1)
		}
	}
}

// P104: counted by hand, at the ends.
func TestInstantEnds(t *testing.T) {
	for text, want := range map[string]int64{
		"0001": 0, "000101": 0, "00010101000000": 0, "00010101000000.0001": 1, "00010101000000.1": 1000, "0001+0000": 0,
		"0001+0001": -600000, "0001-0001": 600000, "0001+1400": -504000000, "0002": 365 * 864000000, "0005": (4*365 + 1) * 864000000,
		"20240229235959.5+0130": 638448425995000, "99991231235959.9999": 3155378975999999, "99991231235959.9999-1400": 3155378975999999 + 504000000,
	} {
		if n, err := Instant(mustParse(t, text)); err != nil || n != want {
			t.Errorf("Instant of %s: %d, %v, want %d", text, n, err, want)
		}
	}
}

// P105: how long each Level lasts.
func TestSpanLengths(t *testing.T) {
	const day = 864000000
	for text, want := range map[string]int64{
		"2023": 365 * day, "2024": 366 * day, "1900": 365 * day, "2000": 366 * day, "9999": 365 * day,
		"202402": 29 * day, "202302": 28 * day, "202404": 30 * day, "202412-1400": 31 * day, "20240229": day,
		"2024022923": day / 24, "202402292359": 600000, "20240229235959": 10000,
		"20240229235959.9": 1000, "20240229235959.99": 100, "20240229235959.999+0100": 10, "20240229235959.9999": 1,
	} {
		s := mustParse(t, text)
		n, _ := Instant(s)
		if first, last, err := Span(s); err != nil || first != n || last != n+want-1 {
			t.Errorf("Span of %s: %d, %d, %v, want %d, %d", text, first, last, err, n, n+want-1)
		}
	}
}

// P106: both Levels, their ends, and what is outside.
func TestOf(t *testing.T) {
	for _, c := range []struct {
		t     int64
		level int
		want  string
	}{
		{0, 6, "00010101000000"}, {0, 7, "00010101000000.0000"}, {9999, 6, "00010101000000"}, {9999, 7, "00010101000000.9999"}, {10000, 6, "00010101000001"},
		{3155378975999999, 6, "99991231235959"}, {3155378975999999, 7, "99991231235959.9999"}, {638448479995001, 7, "20240229235959.5001"},
	} {
		s, err := Of(c.t, c.level)
		if err != nil || s != mustParse(t, c.want) {
			t.Errorf("Of(%d, %d): %+v, %v, want %s", c.t, c.level, s, err, c.want)
		}
	}
	for _, n := range []int64{-1, 3155378976000000, math.MinInt64, math.MaxInt64} {
		for _, level := range []int{6, 7} {
			s, err := Of(n, level)
			wantFault(t, "Of", err, 0, api.ErrRange)
			if s != (api.Stamp{}) {
				t.Errorf("Of(%d, %d): %+v beside an error", n, level, s)
			}
		}
	}
	for _, level := range []int{-1, 0, 1, 3, 5, 8, math.MinInt, math.MaxInt} {
		_, err := Of(0, level)
		wantFault(t, "Of", err, 0, api.ErrRange)
	}
}

// P106, P110: each day of all years, at its beginning and its end, there and back.
func TestEachDay(t *testing.T) {
	day := time.Date(1, 1, 1, 0, 0, 0, 0, time.UTC)
	for n := int64(0); n < 3155378976000000; n += 864000000 {
		want := api.Stamp{Level: 6, Year: day.Year(), Month: int(day.Month()), Day: day.Day()}
		s, err := Of(n, 6)
		if back, e := Instant(s); err != nil || e != nil || s != want || back != n {
			t.Fatalf("Of(%d, 6): %+v, %v; %d, %v, want %+v", n, s, err, back, e, want)
		}
		want = api.Stamp{Level: 7, Year: want.Year, Month: want.Month, Day: want.Day, Hour: 23, Minute: 59, Second: 59, Part: 9999, Digits: 4}
		s, err = Of(n+864000000-1, 7)
		if back, e := Instant(s); err != nil || e != nil || s != want || back != n+864000000-1 {
			t.Fatalf("Of(%d, 7): %+v, %v; %d, %v, want %+v", n+864000000-1, s, err, back, e, want)
		}
		day = day.AddDate(0, 0, 1)
	}
}

// P110: any Stamp of the two kinds is that of its instant.
func TestThereAndBack(t *testing.T) {
	r := rand.New(rand.NewSource(2))
	for range 50000 {
		s := anyStamp(r)
		s.Zoned, s.Zone = false, 0
		if s.Level < 6 || s.Level == 7 && s.Digits != 4 {
			continue
		}
		n, _ := Instant(s)
		if back, err := Of(n, s.Level); err != nil || back != s {
			t.Fatalf("Of(%d, %d): %+v, %v, want %+v", n, s.Level, back, err, s)
		}
	}
}

// P107: by instants alone, whatever the Level and the zone.
func TestCompare(t *testing.T) {
	for _, c := range []struct {
		a, b string
		want int
	}{
		{"2024", "2024", 0}, {"2024", "20240101000000.0000", 0}, {"2024", "2024+0000", 0}, {"2024", "2025", -1}, {"202402", "202401", 1},
		{"2024+0100", "2024", -1}, {"2024-0100", "2024", 1}, {"2024010101+0100", "2024", 0}, {"20240101000000.0001", "2024", 1}, {"0001+1400", "0001", -1},
	} {
		if n, err := Compare(mustParse(t, c.a), mustParse(t, c.b)); err != nil || n != c.want {
			t.Errorf("Compare(%s, %s): %d, %v, want %d", c.a, c.b, n, err, c.want)
		}
	}
}

// nearStamps: many that are close to each other, so that some are alike.
func nearStamps(r *rand.Rand, count int) []api.Stamp {
	var out []api.Stamp
	for range count {
		s := anyStamp(r)
		s.Year = 2000 + r.Intn(2)
		s.Month, s.Day, s.Hour = min(s.Month, 1), min(s.Day, 1+r.Intn(2)), min(s.Hour, r.Intn(2))
		s.Minute, s.Second = min(s.Minute, 1), min(s.Second, 1)
		s.Zone = []int{0, s.Zone / 60 * 60}[r.Intn(2)]
		out = append(out, s)
	}
	return out
}

// P111: Compare is an order; spans of one kind do not meet.
func TestOrder(t *testing.T) {
	r := rand.New(rand.NewSource(3))
	all := nearStamps(r, 120)
	order := func(a, b api.Stamp) int {
		n, err := Compare(a, b)
		if err != nil {
			t.Fatalf("Compare(%+v, %+v): %v", a, b, err)
		}
		return n
	}
	for _, a := range all {
		if order(a, a) != 0 {
			t.Fatalf("%+v is not alike itself", a)
		}
		for _, b := range all {
			if order(a, b) != -order(b, a) {
				t.Fatalf("%+v and %+v stand in no order", a, b)
			}
			for _, c := range all {
				if order(a, b) <= 0 && order(b, c) <= 0 && order(a, c) > 0 {
					t.Fatalf("%+v, %+v, %+v stand in no order", a, b, c)
				}
			}
			kind := a
			kind.Year, kind.Month, kind.Day, kind.Hour, kind.Minute, kind.Second, kind.Part = b.Year, b.Month, b.Day, b.Hour, b.Minute, b.Second, b.Part
			if kind != b || a == b {
				continue
			}
			first, last, _ := Span(a)
			begin, end, _ := Span(b)
			if first <= end && begin <= last {
				t.Fatalf("the spans of %+v and %+v meet", a, b)
			}
		}
	}
}

// P108: ticks that go on, the end of all years, and what is refused.
func TestAt(t *testing.T) {
	for _, c := range []struct {
		start string
		tick  int
		want  string
	}{
		{"20240229235959", 0, "20240229235959"}, {"20240228235959", 1, "20240229000000"}, {"20230228235959", 1, "20230301000000"}, {"20241231000000", 86400, "20250101000000"},
		{"99991231235958", 1, "99991231235959"}, {"99991231235958", 5, "99991231235959"}, {"99991231235959", 0, "99991231235959"}, {"99991231235959", api.MaxTick, "99991231235959"},
		{"00010101000000", 315537897599, "99991231235959"}, {"00010101000000", 315537897598, "99991231235958"}, {"00010101000000", api.MaxTick, "99991231235959"},
	} {
		s, err := At(mustParse(t, c.start), c.tick)
		if err != nil || s != mustParse(t, c.want) {
			t.Errorf("At(%s, %d): %+v, %v, want %s", c.start, c.tick, s, err, c.want)
		}
	}
	for _, text := range []string{"2024", "202402", "20240229", "2024022923", "202402292359", "20240229235959.0", "20240229235959.0000", "20240229235959+0000", "20240229235959-0100"} {
		for _, tick := range []int{0, -1} {
			s, err := At(mustParse(t, text), tick)
			wantFault(t, "At("+text+")", err, 0, api.ErrStamp)
			if s != (api.Stamp{}) {
				t.Errorf("At(%s, %d): %+v beside an error", text, tick, s)
			}
		}
	}
	for _, tick := range []int{-1, api.MaxTick + 1, math.MinInt, math.MaxInt} {
		s, err := At(mustParse(t, "20240229235959"), tick)
		wantFault(t, "At", err, 0, api.ErrRange)
		if s != (api.Stamp{}) {
			t.Errorf("At(.., %d): %+v beside an error", tick, s)
		}
	}
}

// P108: whole seconds, rounded down on both sides of 0.
func TestTicks(t *testing.T) {
	for _, c := range []struct {
		a, b string
		want int64
	}{
		{"2024", "2024", 0}, {"2024", "20240101000001", 1}, {"20240101000001", "2024", -1}, {"2024", "20240101000000.9999", 0}, {"20240101000000.0001", "2024", -1},
		{"20240101000001.0001", "2024", -2}, {"20240101000000.9999", "20240101000001", 0}, {"20240101000000.5", "20240101000001.5", 1}, {"20240101000001.5", "20240101000000.5", -1},
		{"2024", "2024-0100", 3600}, {"2024", "2024+0100", -3600}, {"0001", "99991231235959.9999", 315537897599}, {"99991231235959.9999", "0001", -315537897600}, {"0001+1400", "0001", 50400},
	} {
		if n, err := Ticks(mustParse(t, c.a), mustParse(t, c.b)); err != nil || n != c.want {
			t.Errorf("Ticks(%s, %s): %d, %v, want %d", c.a, c.b, n, err, c.want)
		}
	}
}

// P112: At goes on from where it came to, and Ticks counts it.
func TestAtAndTicks(t *testing.T) {
	r := rand.New(rand.NewSource(4))
	last := mustParse(t, "99991231235959")
	for range 20000 {
		s, err := Of(r.Int63n(3155378976000000), 6)
		if err != nil {
			t.Fatal(err)
		}
		limit := []int64{100, 1 << 32, 1 << 38, api.MaxTick}[r.Intn(4)]
		n := int(r.Int63n(limit + 1))
		m := int(r.Int63n(limit - int64(n) + 1))
		one, _ := At(s, n)
		two, err := At(one, m)
		if whole, e := At(s, n+m); err != nil || e != nil || two != whole {
			t.Fatalf("At(At(%+v, %d), %d): %+v, %v; in one: %+v, %v", s, n, m, two, err, whole, e)
		}
		if back, err := Ticks(s, one); err != nil || one != last && back != int64(n) {
			t.Fatalf("Ticks(%+v, %+v): %d, %v, want %d", s, one, back, err, n)
		}
	}
}
