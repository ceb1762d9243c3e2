package batch

import (
	"fmt"
	"math/rand/v2"
	"slices"
	"strconv"
	"strings"
	"testing"

	"courier/api"
	"courier/esc"
	"courier/stamp"
)

// P2004.

// wraps holds that Wrap writes so, and that it is split into the messages again.
func wraps(t *testing.T, m api.Marks, app, facility, stamp, control string, batches [][]string, want string) {
	t.Helper()
	text, err := Wrap(m, app, facility, stamp, control, batches)
	if err != nil || text != want {
		t.Errorf("P2004: Wrap(%q, %q, %q, %q, %q): %.300q, %v, want %.300q", fiveOf(m), app, facility, stamp, control, text, err, want)
	}
	if l, err := Split(text); err != nil || !slices.Equal(l, slices.Concat(batches...)) {
		t.Errorf("P2006: Split(Wrap): %.300q, %v", l, err)
	}
}

// refusesWrap holds that Wrap refuses so, and tells nothing else.
func refusesWrap(t *testing.T, m api.Marks, app, facility, stamp, control string, batches [][]string, want *api.Fault) {
	t.Helper()
	text, err := Wrap(m, app, facility, stamp, control, batches)
	if !isFault(err, want) || text != "" {
		t.Errorf("P2004: Wrap(%q, %.40q, %.40q, %.40q, %.40q, %.100q): %.300q, %v, want %v", fiveOf(m), app, facility, stamp, control, batches, text, err, want)
	}
}

var one = [][]string{{msgA}}

// expected is what Wrap must write, escaped under the marks.
func expected(m api.Marks, app, facility, stamp, control string, batches [][]string) string {
	e := func(text string) string {
		wire, err := esc.Escape(m, text)
		if err != nil {
			panic(err)
		}
		return wire
	}
	s := fiveOf(m)[:1]
	line := func(name, control string) string {
		return name + fiveOf(m) + s + e(app) + s + e(facility) + s + s + s + e(stamp) + s + s + s + s + e(control) + "\r"
	}
	text := line("FHS", control)
	for i, list := range batches {
		text += line("BHS", control+"."+strconv.Itoa(i+1)) + strings.Join(list, "") + "BTS" + s + strconv.Itoa(len(list)) + "\r"
	}
	return text + "FTS" + s + strconv.Itoa(len(batches)) + "\r"
}

func TestP2004Writes(t *testing.T) {
	wraps(t, usual, "LAB", "NORTH", "20260105000000", "F1", one,
		"FHS|^~\\&|LAB|NORTH|||20260105000000||||F1\rBHS|^~\\&|LAB|NORTH|||20260105000000||||F1.1\r"+msgA+"BTS|1\rFTS|1\r")
	wraps(t, usual, "LAB", "", "2026", "C", [][]string{{msgA, msgB, msgA}},
		"FHS|^~\\&|LAB||||2026||||C\rBHS|^~\\&|LAB||||2026||||C.1\r"+msgA+msgB+msgA+"BTS|3\rFTS|1\r")
	var batches [][]string
	for i := range 64 {
		batches = append(batches, []string{msgA, msgB, msgB, msgA}[:i%4+1])
		wraps(t, usual, "LAB", "N", "2026", "C", batches, expected(usual, "LAB", "N", "2026", "C", batches))
	}
	full := [][]string{slices.Repeat([]string{msgA}, 256)}
	wraps(t, usual, "LAB", "N", "2026", "C", full, expected(usual, "LAB", "N", "2026", "C", full))
}

// TestP2004Escaped: a mark that stands in a text is escaped.
func TestP2004Escaped(t *testing.T) {
	for _, five := range []string{".+-_/", "_.-+:", "|_.-+", "|^.-+", "|^~._", "|^~\\.", "-^~\\&", "+|-_.", "#$%!?"} {
		m := marksOf(five)
		batches := [][]string{{"MSH" + five + "\r", "MSH" + five + "\rPID\r"}, {"MSH" + five + "\r"}}
		wraps(t, m, "A_.-b", "x-y.z_", "20260105010203.5+0130", "C.1-2", batches, expected(m, "A_.-b", "x-y.z_", "20260105010203.5+0130", "C.1-2", batches))
	}
	wraps(t, marksOf("|^~\\."), "A.B", "", "2026", "C", [][]string{{"MSH|^~\\.\r"}},
		"FHS|^~\\.|A\\T\\B||||2026||||C\rBHS|^~\\.|A\\T\\B||||2026||||C\\T\\1\rMSH|^~\\.\rBTS|1\rFTS|1\r")
}

func TestP2004Marks(t *testing.T) {
	for _, m := range []api.Marks{{}, marksOf("||~\\&"), marksOf("A^~\\&"), marksOf("|^~\\ "), marksOf("|^~\\|"), marksOf("|^~\r&"), marksOf("|^~\\\x80")} {
		under := esc.Valid(m)
		want := &api.Fault{At: 0, Code: api.ErrMark, Under: under}
		if under == nil {
			t.Fatalf("%q are right", fiveOf(m))
		}
		refusesWrap(t, m, "LAB", "", "2026", "C", one, want)
		// Ahead of all others.
		refusesWrap(t, m, "", "?", "", "", nil, want)
		refusesWrap(t, m, "LAB", "", "2026", "C", nil, want)
	}
}

// TestP2004OtherMarks: messages' marks that are not the given ones are looked at last.
func TestP2004OtherMarks(t *testing.T) {
	strange := "MSH#$%!?#A\r"
	refusesWrap(t, other, "LAB", "", "2026", "C", one, no(api.ErrMark, 0))
	refusesWrap(t, usual, "LAB", "", "2026", "C", [][]string{{strange}}, no(api.ErrMark, 0))
	refusesWrap(t, usual, "LAB", "", "2026", "C", [][]string{{strange, strange}, {strange}}, no(api.ErrMark, 0))
	refusesWrap(t, marksOf("|^~\\#"), "LAB", "", "2026", "C", one, no(api.ErrMark, 0))
	// Print's own ErrMark has its own place.
	refusesWrap(t, usual, "LAB", "", "2026", "C", [][]string{{msgA}, {msgA}, {strange}}, no(api.ErrMark, 2))
	refusesWrap(t, usual, "LAB", "", "2026", "C", [][]string{{strange}, {msgA}}, no(api.ErrMark, 1))
	refusesWrap(t, other, "LAB", "", "2026", "C", [][]string{{msgA}, {strange}}, no(api.ErrMark, 1))
	// What Print refuses comes ahead of it.
	refusesWrap(t, other, "LAB", "", "2026", "C", [][]string{{msgA}, {"x"}}, no(api.ErrFile, 1))
	refusesWrap(t, other, "LAB", "", "2026", "C", [][]string{{msgA}, {}}, no(api.ErrFile, 1))
	refusesWrap(t, other, "LAB", "", "2026", "C", nil, no(api.ErrFile, -1))
	refusesWrap(t, other, "LAB", "", "2026", "C", slices.Repeat(one, 65), no(api.ErrMany, -1))
	refusesWrap(t, other, "LAB", "", "2026", "C", [][]string{longList(mostFile)}, no(api.ErrLong, 0))
	// The heads are escaped under the given marks, and looked at under the messages'.
	dotted := [][]string{{"MSH._-+:\r"}}
	refusesWrap(t, usual, "LAB", "", "2026", "C", dotted, no(api.ErrForm, 0)) // C.1
	refusesWrap(t, usual, "L_B", "", "2026", "C", dotted, no(api.ErrForm, 0))
	refusesWrap(t, marksOf("|^~\\_"), "LAB", "", "2026", "C", [][]string{{"MSH|^~\\&\r"}}, no(api.ErrMark, 0))
	refusesWrap(t, marksOf("|^~\\_"), "L_B", "", "2026", "C", [][]string{{"MSH|^~\\&\r"}}, no(api.ErrMark, 0)) // L\T\B is right there too
	refusesWrap(t, marksOf("|^~!_"), "L_B", "", "2026", "C", [][]string{{"MSH|^~\\&\r"}}, no(api.ErrMark, 0))  // L!T!B is plain there
	refusesWrap(t, marksOf("|^~!_"), "L_B", "", "2026", "C", [][]string{{"MSH|!~\\&\r"}}, no(api.ErrForm, 0))  // and no sub here
	refusesWrap(t, usual, "L_B", "", "2026", "C", [][]string{{"MSH|^~_&\r"}}, no(api.ErrForm, 0))              // _ begins no escape
}

// TestP2004NotAsOneSub: where a mark of the messages stands in a text of a head that is no sub any more.
func TestP2004NotAsOneSub(t *testing.T) {
	for _, c := range []struct {
		five                          string
		app, facility, stamp, control string
	}{
		{"|_~\\&", "L_B", "", "2026", "C"},
		{"|^~\\_", "LAB", "N_", "2026", "C"},
		{"-^~\\&", "LAB", "", "2026-0100", "C"},
		{"|^+\\&", "LAB", "", "2026+0100", "C"},
		{"|^-\\&", "LAB", "", "2026", "C-D"},
		{"|.~\\&", "LAB", "", "2026", "C"},
	} {
		refusesWrap(t, usual, c.app, c.facility, c.stamp, c.control, [][]string{{"MSH" + c.five + "\r"}}, no(api.ErrForm, 0))
		m := marksOf(c.five)
		batches := [][]string{{"MSH" + c.five + "\r"}}
		wraps(t, m, c.app, c.facility, c.stamp, c.control, batches, expected(m, c.app, c.facility, c.stamp, c.control, batches))
	}
}

// letters are the bytes that an app, and all but the _ of them that a control may have.
const letters = "0123456789ABCDEFGHIJKLMNOPQRSTUVWXYZabcdefghijklmnopqrstuvwxyz.-_"

func TestP2004Names(t *testing.T) {
	m := marksOf("|^~\\&")
	for c := range 256 {
		text := string([]byte{byte(c)})
		right := strings.Contains(letters, text)
		for _, x := range []string{text, "A" + text, text + "A", "A" + text + "B"} {
			if right {
				wraps(t, m, x, x, "2026", "C", one, expected(m, x, x, "2026", "C", one))
			} else {
				refusesWrap(t, m, x, "", "2026", "C", one, no(api.ErrText, 0))
				refusesWrap(t, m, "LAB", x, "2026", "C", one, no(api.ErrText, 1))
			}
			if right && text != "_" {
				wraps(t, m, "LAB", "", "2026", x, one, expected(m, "LAB", "", "2026", x, one))
			} else {
				refusesWrap(t, m, "LAB", "", "2026", x, one, no(api.ErrText, 3))
			}
		}
	}
	for _, n := range []int{1, 2, 14, 15, 16, 19, 20, 21, 100, 10000} {
		x := strings.Repeat("n", n)
		if n <= 20 {
			wraps(t, m, x, x, "2026", "C", one, expected(m, x, x, "2026", "C", one))
		} else {
			refusesWrap(t, m, x, "", "2026", "C", one, no(api.ErrText, 0))
			refusesWrap(t, m, "LAB", x, "2026", "C", one, no(api.ErrText, 1))
		}
		if n <= 15 {
			wraps(t, m, "LAB", "", "2026", x, one, expected(m, "LAB", "", "2026", x, one))
		} else {
			refusesWrap(t, m, "LAB", "", "2026", x, one, no(api.ErrText, 3))
		}
	}
	for _, x := range []string{"\"\"", "a b", "\\F\\", "\xc3\xa4", "|", "a\r", " ", "a\x00"} {
		refusesWrap(t, m, x, "", "2026", "C", one, no(api.ErrText, 0))
		refusesWrap(t, m, "LAB", x, "2026", "C", one, no(api.ErrText, 1))
		refusesWrap(t, m, "LAB", "", x, "C", one, no(api.ErrText, 2))
		refusesWrap(t, m, "LAB", "", "2026", x, one, no(api.ErrText, 3))
	}
	refusesWrap(t, m, "", "", "2026", "C", one, no(api.ErrText, 0))
	refusesWrap(t, m, "LAB", "", "", "C", one, no(api.ErrText, 2))
	refusesWrap(t, m, "LAB", "", "2026", "", one, no(api.ErrText, 3))
}

func TestP2004Stamps(t *testing.T) {
	for _, x := range []string{
		"2026", "202601", "20260105", "2026010523", "202601052359", "20260105235959", "20260105235959.1", "20260105235959.1234", "2026+0000", "20260105235959.1234-1200", "0001", "9999", "20240229",
		"", "\"\"", "\"", "202", "20261", "20261301", "20230229", "2026010524", "20260105235960", "20260105235959.", "20260105235959.12345", "2026+00", "2026 ", " 2026", "2026Z", "0000", "2026\r", "now", strings.Repeat("2", 9000),
	} {
		_, err := stamp.Parse(x)
		if err == nil {
			wraps(t, usual, "LAB", "", x, "C", one, expected(usual, "LAB", "", x, "C", one))
		} else {
			refusesWrap(t, usual, "LAB", "", x, "C", one, no(api.ErrText, 2))
		}
	}
}

// TestP2004WhichComesFirst: the four texts in their order, then what Print refuses.
func TestP2004WhichComesFirst(t *testing.T) {
	right, wrong := [4]string{"LAB", "", "2026", "C"}, [4]string{"", "?", "", ""}
	for set := 1; set < 16; set++ {
		x, first := right, -1
		for i := range 4 {
			if set>>i&1 == 1 {
				x[i] = wrong[i]
				if first < 0 {
					first = i
				}
			}
		}
		for _, batches := range [][][]string{one, nil, {{}}, {{"x"}}, {{"MSH#$%!?\r"}}, slices.Repeat(one, 65)} {
			refusesWrap(t, usual, x[0], x[1], x[2], x[3], batches, no(api.ErrText, first))
		}
	}
}

// TestP2004WhatPrintRefuses: with its own place and number.
func TestP2004WhatPrintRefuses(t *testing.T) {
	refuse := func(batches [][]string, want *api.Fault) {
		t.Helper()
		refusesWrap(t, usual, "LAB", "N", "2026", "C", batches, want)
	}
	refuse(nil, no(api.ErrFile, -1))
	refuse([][]string{}, no(api.ErrFile, -1))
	refuse([][]string{{}}, no(api.ErrFile, 0))
	refuse([][]string{nil}, no(api.ErrFile, 0))
	refuse([][]string{{msgA}, {}, {msgA}}, no(api.ErrFile, 1))
	for _, text := range noForms {
		refuse([][]string{{msgA}, {msgB, text}}, no(api.ErrFile, 1))
	}
	refuse(slices.Repeat(one, 65), no(api.ErrMany, -1))
	refuse(slices.Repeat(one, 1000), no(api.ErrMany, -1))
	refuse([][]string{slices.Repeat([]string{msgA}, 257)}, no(api.ErrMany, 0))
	refuse([][]string{slices.Repeat([]string{msgA}, 255), {msgA}, {msgB}}, no(api.ErrMany, 2))
	// FHS|^~\&|LAB|N|||2026||||C has 27 bytes with its CR, its BHS two more, BTS|131 and FTS|1 have 14.
	long := longList(mostFile - 27 - 29 - 14)
	wraps(t, usual, "LAB", "N", "2026", "C", [][]string{long}, expected(usual, "LAB", "N", "2026", "C", [][]string{long}))
	long[0] = longMessage(len(long[0]) + 1)
	refuse([][]string{long}, no(api.ErrLong, 0))
}

// TestP2004Random: marks and texts of all kinds, held against what must be written.
func TestP2004Random(t *testing.T) {
	r := rand.New(rand.NewPCG(20, 4))
	signs := []byte("!\"#$%&'()*+,-./:;<=>?@[\\]^_`{|}~")
	name := func(most int, from string) string {
		b := make([]byte, 1+r.IntN(most))
		for i := range b {
			b[i] = from[len(from)-1-r.IntN(min(len(from), 6))]
			if r.IntN(3) == 0 {
				b[i] = from[r.IntN(len(from))]
			}
		}
		return string(b)
	}
	for range 3000 {
		r.Shuffle(len(signs), func(i, j int) { signs[i], signs[j] = signs[j], signs[i] })
		m := marksOf(string(signs[:5]))
		var batches [][]string
		for range 1 + r.IntN(3) {
			var list []string
			for n := range 1 + r.IntN(3) {
				list = append(list, fmt.Sprintf("MSH%s%sx%d\r", fiveOf(m), fiveOf(m)[:1], n))
			}
			batches = append(batches, list)
		}
		app, control := name(20, letters), name(15, strings.TrimSuffix(letters, "_"))
		facility := pick(r, []string{"", name(20, letters)})
		x := pick(r, []string{"2026", "202601", "20260105010203.5+0130", "2026-0500"})
		wraps(t, m, app, facility, x, control, batches, expected(m, app, facility, x, control, batches))
	}
}
