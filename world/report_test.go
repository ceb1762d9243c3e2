package world

import (
	"fmt"
	"math"
	"strings"
	"testing"

	"courier/api"
)

// P2204: Report and Read.

func noReport(t *testing.T, seen [][]api.Seen, at int) {
	t.Helper()
	text, got, err := Report(seen)
	isBare(t, fmt.Sprintf("Report %v", seen), got, err, at, api.ErrReport)
	if text != "" {
		t.Errorf("%q beside a refusal", text)
	}
}

func noRead(t *testing.T, text string, at int) {
	t.Helper()
	seen, got, err := Read(text)
	isBare(t, fmt.Sprintf("Read %q", text), got, err, at, api.ErrReport)
	if seen != nil {
		t.Errorf("%v beside a refusal", seen)
	}
}

var oneUp = api.Seen{Kind: api.SeenUp, Side: 1}

// isSeen: whether a line tells the thing, and which.
func isSeen(t *testing.T, s api.Seen, want bool) {
	t.Helper()
	lists := [][]api.Seen{{oneUp}, nil, {oneUp, s, oneUp}}
	if !want {
		noReport(t, lists, 2)
		return
	}
	text := reported(t, lists)
	if text != "0 up 1\n2 up 1\n"+secondSeenLine(2, s)+"\n2 up 1\n" {
		t.Fatalf("%s: %q, want %q", seenText(s), text, secondSeenLine(2, s))
	}
	if back := reads(t, text); !sameLists(back, lists) {
		t.Fatalf("%s: back: %v", seenText(s), back)
	}
}

func plainSeen(r row) api.Seen {
	s := api.Seen{Kind: api.SeenKind(r.kind)}
	for _, p := range r.places {
		switch p.name {
		case "control":
			s.Control = "x"
		case "state":
			s.State = 1
		case "errno":
			s.Errno = 1
		}
	}
	return s
}

func TestReportNumbers(t *testing.T) {
	t.Parallel()
	for _, r := range seenRows() {
		for name, set := range map[string]func(s *api.Seen, v int){
			"side":   func(s *api.Seen, v int) { s.Side = v },
			"number": func(s *api.Seen, v int) { s.Number = v },
			"state":  func(s *api.Seen, v int) { s.State = v },
			"errno":  func(s *api.Seen, v int) { s.Errno = api.Errno(v) },
		} {
			p, used := r.uses(name)
			if used && name == "state" {
				p = n("state", 1, 3)
			}
			for _, v := range someNumbers(p) {
				s := plainSeen(r)
				set(&s, v)
				isSeen(t, s, v >= p.least && v <= p.most)
			}
		}
		for _, again := range []bool{false, true} {
			s := plainSeen(r)
			s.Again = again
			_, used := r.uses("again")
			isSeen(t, s, used || !again)
		}
	}
}

func TestReportTexts(t *testing.T) {
	t.Parallel()
	for _, r := range seenRows() {
		_, control := r.uses("control")
		_, code := r.uses("answer")
		_, text := r.uses("text")
		for _, w := range someWords {
			s := plainSeen(r)
			s.Control = w
			isSeen(t, s, control)
			s = plainSeen(r)
			s.Code = w
			isSeen(t, s, code && w != "-") // that is how none is written
		}
		for _, w := range noWords {
			s := plainSeen(r)
			s.Control = w
			isSeen(t, s, !control && w == "")
			s = plainSeen(r)
			s.Code = w
			isSeen(t, s, w == "")
		}
		for b := range 256 {
			s := plainSeen(r)
			s.Text = []byte{byte(b)}
			isSeen(t, s, text)
			s.Text = []byte{'a', byte(b), ' '}
			isSeen(t, s, text)
		}
		for _, w := range []string{"\"", "\\", "\r\n", "\\x41", strings.Repeat("\x0b\"", 10000), "x\"\n0 up 0"} {
			s := plainSeen(r)
			s.Text = []byte(w)
			isSeen(t, s, text)
		}
		s := plainSeen(r)
		s.Text, s.Errors = []byte{}, []api.Finding{}
		isSeen(t, s, true)
	}
}

func TestReportFindings(t *testing.T) {
	for _, r := range seenRows() {
		_, found := r.uses("findings")
		for _, list := range [][]api.Finding{{{}}, {{Code: 207}}, {{Code: 999, Seg: "PID", Occur: 999, Field: 999, Rep: 999, Comp: 999, Sub: 999}, {}}, make([]api.Finding, 100)} {
			s := plainSeen(r)
			s.Errors = list
			isSeen(t, s, found)
		}
	}
	s := plainSeen(seenRows()[2])
	for _, wrong := range []api.Finding{{Code: -1}, {Code: 1000}, {Occur: -1}, {Occur: 1000}, {Field: -1}, {Field: 1000}, {Rep: -1}, {Rep: 1000}, {Comp: -1}, {Comp: 1000}, {Sub: -1}, {Sub: 1000}, {Seg: "-"}, {Seg: " "}, {Seg: "\""}, {Seg: strings.Repeat("x", 65)}, {Sub: math.MaxInt}} {
		for _, s.Errors = range [][]api.Finding{{wrong}, {{Code: 1}, wrong}} {
			isSeen(t, s, false)
		}
	}
	s.Errors = []api.Finding{{Seg: strings.Repeat("x", 64)}}
	isSeen(t, s, true)
}

func TestReportKinds(t *testing.T) {
	for _, kind := range []int{math.MinInt, -7, -1, 0, 8, 9, 16, 255, 256, 257, 1 << 32, 1<<32 + 1, math.MaxInt} {
		isSeen(t, api.Seen{Kind: api.SeenKind(kind)}, false)
		isSeen(t, api.Seen{Kind: api.SeenKind(kind), Control: "x", State: 1}, false)
	}
	for _, r := range seenRows() {
		isSeen(t, plainSeen(r), true)
	}
	for seed := range seeds(100) {
		m := newMaker(2204, uint64(seed))
		for range 25 {
			isSeen(t, m.seen(), true)
		}
	}
}

// far gives lists in which the last has a thing.
func far(at int) [][]api.Seen {
	lists := make([][]api.Seen, at+1)
	lists[at] = []api.Seen{oneUp}
	return lists
}

func TestReportLists(t *testing.T) {
	for _, x := range []struct {
		lists [][]api.Seen
		text  string
	}{
		{nil, ""}, {[][]api.Seen{}, ""}, {[][]api.Seen{nil, nil, {}}, ""},
		{[][]api.Seen{{oneUp}}, "0 up 1\n"}, {[][]api.Seen{{oneUp, oneUp}}, "0 up 1\n0 up 1\n"},
		{[][]api.Seen{nil, {}, {oneUp}, nil, {oneUp, oneUp}, nil}, "2 up 1\n4 up 1\n4 up 1\n"},
		{far(3999), "3999 up 1\n"}, {far(4000), "4000 up 1\n"},
		{make([][]api.Seen, 9000), ""},
		{append(far(4000), nil, nil), "4000 up 1\n"},
	} {
		if text := reported(t, x.lists); text != x.text {
			t.Errorf("%v: %q, want %q", x.lists, text, x.text)
		}
	}
	for _, at := range []int{4001, 4002, 9000} {
		noReport(t, far(at), at)
	}
	// The first list with a thing that no line says.
	wrong := api.Seen{}
	noReport(t, [][]api.Seen{{wrong}}, 0)
	noReport(t, [][]api.Seen{{oneUp, wrong}, {wrong}}, 0)
	noReport(t, [][]api.Seen{{oneUp}, {oneUp}, {oneUp, oneUp, wrong}, {wrong}}, 2)
	noReport(t, append(far(4000), []api.Seen{wrong}), 4001)
	noReport(t, append(append(far(4000), nil, []api.Seen{oneUp}), []api.Seen{wrong}), 4002)
}

func TestRead(t *testing.T) {
	text := `0 up 0
0 up 1
2 out 0 "a\r\x0B \"\\"
2 deliver 1 A1 0 new ""
2 deliver 1 A1 2147483647 again "x"
4 answer 0 A1 answered AA
4 answer 0 A1 closed -
4 answer 0 A1 failed - 1 - 2 3 4 5 6 7 PID 8 9 10 11 12
5 down 1
5 refused 0 999
5 lost 1
`
	want := [][]api.Seen{
		{{Kind: api.SeenUp}, {Kind: api.SeenUp, Side: 1}},
		nil,
		{{Kind: api.SeenOut, Text: []byte("a\r\x0b \"\\")}, {Kind: api.SeenDeliver, Side: 1, Control: "A1"}, {Kind: api.SeenDeliver, Side: 1, Control: "A1", Number: top, Again: true, Text: []byte("x")}},
		nil,
		{{Kind: api.SeenAnswer, Control: "A1", State: 1, Code: "AA"}, {Kind: api.SeenAnswer, Control: "A1", State: 2}, {Kind: api.SeenAnswer, Control: "A1", State: 3, Errors: []api.Finding{{Code: 1, Occur: 2, Field: 3, Rep: 4, Comp: 5, Sub: 6}, {Code: 7, Seg: "PID", Occur: 8, Field: 9, Rep: 10, Comp: 11, Sub: 12}}}},
		{{Kind: api.SeenDown, Side: 1}, {Kind: api.SeenRefused, Errno: 999}, {Kind: api.SeenLost, Side: 1}},
	}
	for _, text := range []string{text, strings.TrimSuffix(text, "\n")} {
		if got := reads(t, text); !sameLists(got, want) {
			t.Errorf("%v\nwant %v", got, want)
		}
	}
	if back := reported(t, want); back != text {
		t.Errorf("%q", back)
	}
}

func TestReadLists(t *testing.T) {
	for text, want := range map[string]int{
		"": 1, "0 up 1": 1, "0 up 1\n": 1, "0 up 1\n0 up 1\n": 1, "1 up 1\n": 2, "0 up 1\n7 up 1\n7 up 1": 8, "4000 up 1": 4001, "3999 up 1\n4000 up 1\n": 4001,
	} {
		got := reads(t, text)
		lines := strings.Count(strings.TrimSuffix(text, "\n"), "\n")
		if text != "" {
			lines++
		}
		for _, list := range got {
			lines -= len(list)
		}
		if len(got) != want || lines != 0 {
			t.Errorf("%q: %d lists, %d lines more", text, len(got), lines)
		}
	}
	for text, at := range map[string]int{
		"\n": 1, "0 up 1\n\n": 2, "\n0 up 1\n": 1, "0 up 1\n\n0 up 1\n": 2, " \n": 1,
		"1 up 0\n0 up 1\n": 2, "0 up 0\n3 up 1\n3 up 1\n2 up 0\n": 4, "4000 up 0\n3999 up 1": 2, "1 up 0\n0 wrong\n": 2,
		"4001 up 0": 1, "0 up 0\n4001 up 0\n": 2, "0 up 0\n99999999999999999999 up 0\n": 2, "-1 up 0": 1, "00 up 0": 1, "01 up 0": 1, "+0 up 0": 1, "-0 up 0": 1,
		"up 0": 1, "x up 0": 1, "0": 1, "0 ": 1, "0 up": 1, "0 up ": 1, "0 up 2": 1, "0 up -1": 1, "0 up 00": 1, "0 up 0 ": 1, " 0 up 0": 1, "0  up 0": 1, "0 up  0": 1, "0 up 0 0": 1, "0\tup 0": 1, "0 Up 0": 1, "0 up 0\r": 1, "0 up 0\r\n": 1, "0 up 0\x00": 1, "\"0\" up 0": 1,
		"wrong\nwrong": 1, "0 up 0\n0 up 1\nwrong\n0 up 0": 3, "refused 1 world 441\n": 1, "0 sync 0": 1,
	} {
		noRead(t, text, at)
	}
}

// likeSecondSeen: Read says of a line what the second reader does.
func likeSecondSeen(t *testing.T, line string) bool {
	t.Helper()
	at, want, ok := secondSeen(line)
	if !ok {
		noRead(t, line, 1)
		noRead(t, "0 up 1\n"+line+"\nwrong\n", 2)
		return false
	}
	got := reads(t, "0 up 1\n"+line+"\n")
	if len(got) != at+1 || !sameList(got[at][len(got[at])-1:], []api.Seen{want}) {
		t.Fatalf("%q: %v, want %v", line, got[at], want)
	}
	return true
}

func TestReadLines(t *testing.T) {
	t.Parallel()
	for _, line := range []string{
		`1 out 0 ""`, `1 out 1 "\x00\"\\\r "`, `1 deliver 0 x 0 new ""`, `1 deliver 1 - 2147483647 again "x"`, "1 deliver 0 " + strings.Repeat("x", 64) + ` 1 new "y"`,
		`1 answer 0 x answered AA`, `1 answer 1 x closed -`, `1 answer 0 x failed x 1 - 0 0 0 0 0`, `1 answer 0 x answered # 999 x 999 999 999 999 999`,
		`1 down 0`, `1 up 1`, `1 refused 0 1`, `1 refused 1 999`, `1 lost 0`, "1 answer 0 x answered " + strings.Repeat("c", 64),
	} {
		if !likeSecondSeen(t, line) {
			t.Errorf("no line: %q", line)
		}
	}
	for _, line := range []string{
		`1 out`, `1 out 0`, `1 out 0 x`, `1 out 2 ""`, `1 out 0 "" `, `1 out 0 "" ""`, `1 out 0 "`, `1 out 0 "\x41"`, `1 out ""`,
		`1 deliver 0 x 0 new`, `1 deliver 0 x 0 ""`, `1 deliver 0 x new ""`, `1 deliver 0 0 new ""`, `1 deliver x 0 new ""`, `1 deliver 0 x 0 old ""`, `1 deliver 0 x 0 New ""`, `1 deliver 0 x 0 - ""`, `1 deliver 0 x -1 new ""`, `1 deliver 0 x 2147483648 new ""`, `1 deliver 0 x 00 new ""`, `1 deliver 0 "x" 0 new ""`, `1 deliver 2 x 0 new ""`, "1 deliver 0 " + strings.Repeat("x", 65) + ` 0 new ""`, `1 deliver 0 x 0 new "" `, `1 deliver 0 x 0 new again ""`, `1 deliver 0 x 0  ""`,
		`1 answer 0 x`, `1 answer 0 x answered`, `1 answer 0 x answered `, `1 answer 0 answered AA`, `1 answer x answered AA`, `1 answer 0 x Answered AA`, `1 answer 0 x settled AA`, `1 answer 0 x 1 AA`, `1 answer 0 x - -`, `1 answer 0 x failed "-"`, `1 answer 2 x failed -`, `1 answer 0 x failed - 1`, `1 answer 0 x failed - 1 - 0 0 0 0`, `1 answer 0 x failed - 1000 - 0 0 0 0 0`, `1 answer 0 x failed - 1 - 0 0 0 0 0 `, "1 answer 0 x failed " + strings.Repeat("c", 65),
		`1 down`, `1 down 2`, `1 down 0 0`, `1 up`, `1 lost`, `1 lost 2`, `1 lost 0 1`, `1 lost 0 ""`, `1 refused`, `1 refused 0`, `1 refused 0 0`, `1 refused 0 1000`, `1 refused 0 -1`, `1 refused 0 01`, `1 refused 2 1`, `1 refused 0 1 1`, `1 refused 1`, `1 refused 0 x`,
		`4001 down 0`, `-1 down 0`, `down 0`, `1 1 down 0`, ` `,
	} {
		if likeSecondSeen(t, line) {
			t.Errorf("a line: %q", line)
		}
	}
	good := 0
	for seed := range seeds(400) {
		m := newMaker(2205, uint64(seed))
		for range 30 {
			line := secondSeenLine(m.IntN(5000), m.seen())
			for range m.IntN(3) {
				line = m.spoilt(line)
			}
			if line != "" && !strings.Contains(line, "\n") && likeSecondSeen(t, line) {
				good++
			}
		}
	}
	if good < seeds(400) {
		t.Errorf("%d good ones", good)
	}
}

// P2207: there and back.
func TestReportThereAndBack(t *testing.T) {
	for seed := range seeds(200) {
		m := newMaker(2207, uint64(seed))
		lists := make([][]api.Seen, m.IntN(12))
		for i := range lists {
			for range max(m.IntN(6)-2, 0) {
				lists[i] = append(lists[i], m.seen())
			}
		}
		text := reported(t, lists)
		back := reads(t, text)
		for len(lists) > 1 && len(lists[len(lists)-1]) == 0 {
			lists = lists[:len(lists)-1]
		}
		if len(lists) == 0 {
			lists = make([][]api.Seen, 1)
		}
		if !sameLists(back, lists) || reported(t, back) != text {
			t.Fatalf("%v\nback %v", lists, back)
		}
	}
}
