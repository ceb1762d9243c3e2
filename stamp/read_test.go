package stamp

import (
	"errors"
	"strconv"
	"strings"
	"testing"

	"courier/api"
)

// wantFault: the error is a Fault of this layer with that place and number, and errors.Is finds the number.
func wantFault(t *testing.T, call string, err error, at int, code api.Errno) {
	t.Helper()
	var f *api.Fault
	if !errors.As(err, &f) {
		t.Errorf("%s: %v, want a Fault with %v at %d", call, err, code, at)
		return
	}
	if f.Layer != "stamp" || f.At != at || f.Code != code || f.Under != nil || !errors.Is(err, code) {
		t.Errorf("%s: %v, want %v at %d", call, err, code, at)
	}
}

// wantForm: ErrForm at that place, or none where the place is below 0.
func wantForm(t *testing.T, call string, err error, at int) {
	t.Helper()
	if at >= 0 {
		wantFault(t, call, err, at, api.ErrForm)
	} else if err != nil {
		t.Errorf("%s: %v, want no error", call, err)
	}
}

func mustParse(t *testing.T, text string) api.Stamp {
	t.Helper()
	s, err := Parse(text)
	if err != nil {
		t.Fatalf("Parse(%q): %v", text, err)
	}
	return s
}

// P101: the Stamp of each kind of text.
func TestParseReads(t *testing.T) {
	day := api.Stamp{Level: 3, Year: 2024, Month: 2, Day: 29}
	hour, minute, second := day, day, day
	hour.Level, hour.Hour = 4, 23
	minute.Level, minute.Hour, minute.Minute = 5, 23, 58
	second.Level, second.Hour, second.Minute, second.Second = 6, 23, 58, 57
	part := func(n, digits int) api.Stamp {
		s := second
		s.Level, s.Part, s.Digits = 7, n, digits
		return s
	}
	zoned := func(s api.Stamp, zone int) api.Stamp {
		s.Zoned, s.Zone = true, zone
		return s
	}
	for text, want := range map[string]api.Stamp{
		"0001":                     {Level: 1, Year: 1},
		"9999":                     {Level: 1, Year: 9999},
		"202401":                   {Level: 2, Year: 2024, Month: 1},
		"202412":                   {Level: 2, Year: 2024, Month: 12},
		"20240229":                 day,
		"2024022923":               hour,
		"202402292358":             minute,
		"20240229235857":           second,
		"20240229235857.0":         part(0, 1),
		"20240229235857.5":         part(5, 1),
		"20240229235857.05":        part(5, 2),
		"20240229235857.500":       part(500, 3),
		"20240229235857.9999":      part(9999, 4),
		"2024+0100":                {Level: 1, Year: 2024, Zoned: true, Zone: 60},
		"202401-0001":              {Level: 2, Year: 2024, Month: 1, Zoned: true, Zone: -1},
		"20240229+0000":            zoned(day, 0),
		"2024022923+1400":          zoned(hour, 840),
		"202402292358-1400":        zoned(minute, -840),
		"20240229235857+1359":      zoned(second, 839),
		"20240229235857.0012-0930": zoned(part(12, 4), -570),
		"20000229":                 {Level: 3, Year: 2000, Month: 2, Day: 29},
		"19000228":                 {Level: 3, Year: 1900, Month: 2, Day: 28},
		"99991231000000":           {Level: 6, Year: 9999, Month: 12, Day: 31},
	} {
		if s, err := Parse(text); err != nil || s != want {
			t.Errorf("Parse(%q): %+v, %v, want %+v", text, s, err, want)
		}
	}
}

// P101: the first fault's place, and nothing beside the error.
func TestParseRefuses(t *testing.T) {
	for text, at := range map[string]int{
		"": 0, "0": 1, "202": 3, "x": 0, "+0100": 0, "-": 0, ".": 0, " 2024": 0, "202x": 3,
		"0000": 0, "0000x": 0, "00001": 0, "0000+9999": 0,
		"2024x": 4, "2024.5": 4, "2024 ": 4, "2024\x00": 4, "20241": 5, "20242x": 5, "2024\u0661": 4,
		"202400": 4, "202413": 4, "202413x": 4, "202499-0000": 4,
		"202402x": 6, "202402.1": 6, "2024023": 7,
		"20240200": 6, "20240230": 6, "20230229": 6, "19000229": 6, "20240431": 6, "20240132": 6, "20241299": 6,
		"20240229x": 8, "20240229.1": 8, "202402292": 9, "2024022924": 8, "2024022999": 8,
		"2024022923.1": 10, "20240229235": 11, "202402292360": 10, "202402292399x": 10,
		"202402292359.1": 12, "2024022923595": 13, "20240229235960": 12, "20240229235960.1": 12,
		"202402292359590": 14, "20240229235959x": 14, "20240229235959.": 15, "20240229235959.+0100": 15, "20240229235959..1": 15,
		"20240229235959.1x": 16, "20240229235959.1.": 16, "20240229235959.12345": 19, "20240229235959.1234.": 19,
		"2024+": 5, "2024+010": 8, "2024+0x00": 6, "2024++100": 5, "2024-01.0": 7,
		"2024-0000": 4, "2024+1401": 4, "2024-1401": 4, "2024+0060": 4, "2024+0099": 4, "2024+1360": 4, "2024+9999": 4,
		"2024+14010": 4, "2024+01000": 9, "2024+0100+0100": 9, "2024+0100x": 9,
		"20240229235959.1234-0000": 19,
	} {
		s, err := Parse(text)
		wantForm(t, "Parse of "+strconv.Quote(text), err, at)
		if s != (api.Stamp{}) {
			t.Errorf("Parse(%q): %+v beside an error", text, s)
		}
	}
}

// P103: dates.
func TestDate(t *testing.T) {
	for text, at := range map[string]int{
		"0001": -1, "9999": -1, "202412": -1, "20240229": -1, "20000229": -1,
		"": 0, "0000": 0, "202": 3, "20241": 5, "202413": 4, "202400": 4, "20230229": 6, "20240001": 4, "2024022": 7,
		"2024022912": 8, "2024+0100": 4, "202402-0100": 6, "20240229+0100": 8, "2024.1": 4, "20240229.": 8, "2024x": 4, "20240230x": 6,
	} {
		wantForm(t, "Date of "+strconv.Quote(text), Date(text), at)
	}
}

// P103: times of day.
func TestTime(t *testing.T) {
	for text, at := range map[string]int{
		"00": -1, "23": -1, "2359": -1, "235959": -1, "235959.1": -1, "235959.1234": -1, "235959.1234-0500": -1, "00+0000": -1, "0000-0001": -1, "000000+1400": -1,
		"": 0, "1": 1, "24": 0, "24x": 0, "x": 0, "+0100": 0, ".1": 0, "12600": 2, "1260": 2, "123": 3, "120060": 4, "12005": 5,
		"12.1": 2, "1200.1": 4, "120000.": 7, "120000.12345": 11, "120000.+0100": 7, "1200001": 6,
		"12-0000": 2, "12+1401": 2, "12+0060": 2, "12+01": 5, "12+01000": 7, "20240229": 6, "12 ": 2, "12\x00": 2,
	} {
		wantForm(t, "Time of "+strconv.Quote(text), Time(text), at)
	}
}

// walker is the chapter's rules as steps of single bytes: what may stand next, and what a number is as soon as it is whole.
type walker struct {
	text        string
	first, last int // of the fields below; 6: a part
	zones       bool
	numbers     [6]int
}

var widths = [6]int{4, 2, 2, 2, 2, 2}

func (w *walker) digitAt(i int) bool {
	return i < len(w.text) && strings.IndexByte("0123456789", w.text[i]) >= 0
}

func (w *walker) whole(field, n int) bool {
	w.numbers[field] = n
	year, month := w.numbers[0], w.numbers[1]
	switch field {
	case 0:
		return n > 0
	case 1:
		return n >= 1 && n <= 12
	case 2:
		days := 31
		if month == 4 || month == 6 || month == 9 || month == 11 {
			days = 30
		} else if month == 2 && (year%400 == 0 || year%4 == 0 && year%100 != 0) {
			days = 29
		} else if month == 2 {
			days = 28
		}
		return n >= 1 && n <= days
	case 3:
		return n < 24
	}
	return n < 60
}

// number walks through so many digits; ok false: i is the place of a byte that is none.
func (w *walker) number(i, width int) (n, end int, ok bool) {
	for k := range width {
		if !w.digitAt(i + k) {
			return 0, i + k, false
		}
		n = n*10 + int(w.text[i+k]-'0')
	}
	return n, i + width, true
}

// fault: the place of the first fault, -1 for none.
func (w *walker) fault() int {
	i := 0
	for field := w.first; field <= min(w.last, 5); field++ {
		if field > w.first && !w.digitAt(i) {
			return w.tail(i)
		}
		n, end, ok := w.number(i, widths[field])
		if !ok {
			return end
		}
		if !w.whole(field, n) {
			return i
		}
		i = end
	}
	if w.last == 6 && strings.HasPrefix(w.text[i:], ".") {
		i++
		if !w.digitAt(i) {
			return i
		}
		for k := 0; k < 4 && w.digitAt(i); k++ {
			i++
		}
	}
	return w.tail(i)
}

func (w *walker) tail(i int) int {
	if !w.zones || !strings.HasPrefix(w.text[i:], "+") && !strings.HasPrefix(w.text[i:], "-") {
		if i < len(w.text) {
			return i
		}
		return -1
	}
	n, end, ok := w.number(i+1, 4)
	if !ok {
		return end
	}
	if n > 1400 || n%100 > 59 || w.text[i:end] == "-0000" {
		return i
	}
	if end < len(w.text) {
		return end
	}
	return -1
}

// neighbours: what one byte changed, put in or taken out makes of a text, and its beginnings.
func neighbours(text string) []string {
	out := []string{text}
	for i := 0; i <= len(text); i++ {
		out = append(out, text[:i])
		for _, c := range []byte("0123456789+-.xT \x00\xff") {
			out = append(out, text[:i]+string(rune(c))+text[i:])
			if i < len(text) {
				out = append(out, text[:i]+string([]byte{c})+text[i+1:])
			}
		}
		if i < len(text) {
			out = append(out, text[:i]+text[i+1:])
		}
	}
	return out
}

// P101, P103: near right texts, and near those, the places are those of the walk; P109: what is read is written as it was.
func TestPlacesByWalk(t *testing.T) {
	seeds := []string{"2024", "202402", "20240229", "19000228", "20001231235959", "20240229235959.1234+1400", "99991231-0001", "235959.9-0100", "1200+0000"}
	for _, seed := range seeds {
		for _, near := range neighbours(seed) {
			texts := []string{near}
			if len(seed) <= 9 {
				texts = neighbours(near)
			}
			for _, text := range texts {
				s, err := Parse(text)
				at := (&walker{text: text, last: 6, zones: true}).fault()
				wantForm(t, "Parse of "+strconv.Quote(text), err, at)
				if back, e := Print(s); at < 0 && (e != nil || back != text) {
					t.Errorf("Print of %q: %q, %v", text, back, e)
				}
				wantForm(t, "Date of "+strconv.Quote(text), Date(text), (&walker{text: text, last: 2}).fault())
				wantForm(t, "Time of "+strconv.Quote(text), Time(text), (&walker{text: text, first: 3, last: 6, zones: true}).fault())
			}
		}
	}
}
