package audit

import (
	"strconv"
	"strings"
	"testing"

	"courier/api"
)

// The ten examples of DOC.md, judged as they stand there, and those of the chapter.

// words are a line's, the last of which may be bytes between quotation marks.
func words(t *testing.T, line string) ([]string, []byte) {
	t.Helper()
	at := strings.IndexByte(line, '"')
	if at < 0 {
		return strings.Fields(line), nil
	}
	text, err := strconv.Unquote(line[at:])
	if err != nil {
		t.Fatalf("%s: %v", line, err)
	}
	return strings.Fields(line[:at]), []byte(text)
}

func numbersOf(words []string) [9]int {
	var n [9]int
	for i, w := range words[:min(len(words), len(n))] {
		n[i], _ = strconv.Atoi(w)
	}
	return n
}

func findingsOf(words []string) []api.Finding {
	var list []api.Finding
	for ; len(words) > 0; words = words[7:] {
		n := numbersOf(words[:7])
		list = append(list, api.Finding{Code: n[0], Seg: strings.TrimPrefix(words[1], "-"), Occur: n[2], Field: n[3], Rep: n[4], Comp: n[5], Sub: n[6]})
	}
	return list
}

// eventOf reads a script's line.
func eventOf(t *testing.T, line string) api.Event {
	w, text := words(t, line)
	n := numbersOf(w[1:])
	side := n[0]
	switch w[0] {
	case "submit":
		return submitting(side, string(text))
	case "verdict":
		return judging(side, w[2], w[3], findingsOf(w[4:])...)
	case "tick":
		return ticking(side, n[1])
	case "sync":
		return syncing(side)
	case "compact":
		return of(api.EvCompact, side)
	case "restart":
		return restarting(side)
	case "fuse":
		return fusing(side, n[1])
	case "crash":
		e := crashing(side, n[1], n[3])
		e.Tears[0].Zeros, e.Tears[1].Zeros = n[2], n[4]
		return e
	case "probe":
		return probing(side, w[2])
	case "resync":
		return resyncing(side, w[2], n[2])
	case "carry":
		return carrying(side, n[1], n[2])
	case "drop":
		return dropping(side, n[1])
	case "double":
		return doubling(side, n[1])
	case "raw":
		return putting(side, text)
	}
	t.Fatalf("no event: %s", line)
	return api.Event{}
}

// seenOf reads a report's line, behind the event's number.
func seenOf(t *testing.T, line string) api.Seen {
	w, text := words(t, line)
	n := numbersOf(w)
	side := n[1]
	switch w[0] {
	case "out":
		return api.Seen{Kind: api.SeenOut, Side: side, Text: text}
	case "deliver":
		s := delivered(side, w[2], n[3], string(text))
		s.Again = w[4] == "again"
		return s
	case "answer":
		state := map[string]int{"answered": 1, "closed": 2, "failed": 3}[w[3]]
		return api.Seen{Kind: api.SeenAnswer, Side: side, Control: w[2], State: state, Code: strings.TrimPrefix(w[4], "-"), Errors: findingsOf(w[5:])}
	case "down":
		return down(side)
	case "up":
		return up(side)
	case "refused":
		return isRefused(side, api.Errno(n[2]))
	}
	t.Fatalf("no report: %s", line)
	return api.Seen{}
}

func linesOf(text string) []string { return strings.Split(strings.TrimSpace(text), "\n") }

// exampleOf reads an example: its events, and what was seen in each.
func exampleOf(t *testing.T, script, report string) ([]api.Event, [][]api.Seen) {
	var events []api.Event
	for _, line := range linesOf(script) {
		events = append(events, eventOf(t, line))
	}
	seen := make([][]api.Seen, len(events)+1)
	seen[0] = bothUp()
	for _, line := range linesOf(report) {
		number, rest, _ := strings.Cut(line, " ")
		at, _ := strconv.Atoi(number)
		seen[at] = append(seen[at], seenOf(t, rest))
	}
	return events, seen
}

func TestTenExamples(t *testing.T) {
	for i, x := range examples() {
		s := plainSetup()
		s.Sides[0].Sequence = i == 7 || i == 8
		events, seen := exampleOf(t, x.script, x.report)
		if at, err := Judge(s, events, seen); at != 0 || err != nil {
			t.Errorf("example %d: %d, %v", i+1, at, err)
		}
		// Without a thing that was seen, or with one seen twice, it is no run.
		for n := range seen {
			for k := range seen[n] {
				less, more := append([][]api.Seen(nil), seen...), append([][]api.Seen(nil), seen...)
				less[n] = append(append([]api.Seen(nil), seen[n][:k]...), seen[n][k+1:]...)
				more[n] = append(append([]api.Seen(nil), seen[n]...), seen[n][k])
				isTrace(t, s, events, less, n)
				isTrace(t, s, events, more, n)
			}
		}
	}
}

// isTrace: Judge tells that with this event it is no run; of a restart that lost its records alone it may be another one.
func isTrace(t *testing.T, s api.Setup, events []api.Event, seen [][]api.Seen, at int) {
	t.Helper()
	got, err := Judge(s, events, seen)
	if got < at || err == nil {
		t.Errorf("event %d: %d, %v\n%s", at, got, err, shownAll(seen))
		return
	}
	isFault(t, "Judge", err, api.ErrTrace, got)
}

// The chapter's examples.
func TestChapterExamples(t *testing.T) {
	one := message("A1", "", "")
	p := begun(t, plainSetup())
	may(t, p, syncing(0), nil)
	may(t, p, crashing(0, 0, 0), []api.Seen{down(0)})
	isFault(t, "Step", p.Step(crashing(0, 0, 0), nil), api.ErrTrace, 0)

	goes(t, p, submitting(0, one))
	may(t, p, syncing(0), []api.Seen{out(0, one)})
	q := *p
	goes(t, p, crashing(0, 5, 5), down(0))
	may(t, p, restarting(0), []api.Seen{up(0)}, []api.Seen{up(0), out(0, one)})
	goes(t, &q, crashing(0, 0, 0), down(0))
	may(t, &q, restarting(0), []api.Seen{up(0)})

	p = begun(t, plainSetup())
	goes(t, p, fusing(0, 0))
	may(t, p, submitting(0, one), []api.Seen{down(0)})
	goes(t, p, fusing(0, 1))
	goes(t, p, submitting(0, one))
	may(t, p, syncing(0), []api.Seen{down(0)})
}

type example struct{ script, report string }

func examples() []example {
	return []example{
		{`
submit 0 "MSH|^~\\&|LAB||HIS||2026||ADT^A01|A1|P|2.5.1|||AL|AL\r"
sync 0
carry 0 0 0
sync 1
carry 1 0 0
verdict 1 A1 AA
sync 1
carry 1 0 0
sync 0
`, `
2 out 0 "\x0BMSH|^~\\&|LAB||HIS||2026||ADT^A01|A1|P|2.5.1|||AL|AL\r\x1C\r"
4 out 1 "\x0BMSH|^~\\&|HIS||LAB||20260105000000||ACK^A01^ACK|CA1|P|2.5.1|||NE|NE\rMSA|CA|A1\r\x1C\r"
4 deliver 1 A1 0 new "MSH|^~\\&|LAB||HIS||2026||ADT^A01|A1|P|2.5.1|||AL|AL\r"
7 out 1 "\x0BMSH|^~\\&|HIS||LAB||20260105000000||ACK^A01^ACK|AA1|P|2.5.1|||NE|NE\rMSA|AA|A1\r\x1C\r"
9 answer 0 A1 answered AA
`},
		{`
submit 0 "MSH|^~\\&|LAB||HIS||2026||ADT^A01|A1|P|2.5.1\r"
sync 0
carry 0 0 0
sync 1
verdict 1 A1 AE 207 - 0 0 0 0 0
sync 1
carry 1 0 0
sync 0
`, `
2 out 0 "\x0BMSH|^~\\&|LAB||HIS||2026||ADT^A01|A1|P|2.5.1\r\x1C\r"
4 deliver 1 A1 0 new "MSH|^~\\&|LAB||HIS||2026||ADT^A01|A1|P|2.5.1\r"
6 out 1 "\x0BMSH|^~\\&|HIS||LAB||20260105000000||ACK^A01^ACK|AA1|P|2.5.1\rMSA|AE|A1\rERR|||207^^HL70357|E\r\x1C\r"
8 answer 0 A1 answered AE 207 - 0 0 0 0 0
`},
		{`
submit 0 "MSH|^~\\&|LAB||HIS||2026||ADT^A01|A1|P|2.5.1|||AL|NE\r"
sync 0
drop 0 0
tick 0 4
tick 0 1
drop 0 0
tick 0 5
sync 0
`, `
2 out 0 "\x0BMSH|^~\\&|LAB||HIS||2026||ADT^A01|A1|P|2.5.1|||AL|NE\r\x1C\r"
5 out 0 "\x0BMSH|^~\\&|LAB||HIS||2026||ADT^A01|A1|P|2.5.1|||AL|NE\r\x1C\r"
8 answer 0 A1 failed -
`},
		{`
submit 0 "MSH|^~\\&|LAB||HIS||2026||ADT^A01|A1|P|2.5.1|||AL|AL\r"
sync 0
double 0 0
carry 0 0 0
sync 1
verdict 1 A1 AA
sync 1
carry 0 0 0
`, `
2 out 0 "\x0BMSH|^~\\&|LAB||HIS||2026||ADT^A01|A1|P|2.5.1|||AL|AL\r\x1C\r"
5 out 1 "\x0BMSH|^~\\&|HIS||LAB||20260105000000||ACK^A01^ACK|CA1|P|2.5.1|||NE|NE\rMSA|CA|A1\r\x1C\r"
5 deliver 1 A1 0 new "MSH|^~\\&|LAB||HIS||2026||ADT^A01|A1|P|2.5.1|||AL|AL\r"
7 out 1 "\x0BMSH|^~\\&|HIS||LAB||20260105000000||ACK^A01^ACK|AA1|P|2.5.1|||NE|NE\rMSA|AA|A1\r\x1C\r"
8 out 1 "\x0BMSH|^~\\&|HIS||LAB||20260105000000||ACK^A01^ACK|CA1|P|2.5.1|||NE|NE\rMSA|CA|A1\r\x1C\r"
8 out 1 "\x0BMSH|^~\\&|HIS||LAB||20260105000000||ACK^A01^ACK|AA1|P|2.5.1|||NE|NE\rMSA|AA|A1\r\x1C\r"
`},
		{`
submit 0 "MSH|^~\\&|LAB||HIS||2026||ADT^A01|A1|P|2.5.1|||AL|AL\r"
crash 0 0 0 0 0
restart 0
submit 0 "MSH|^~\\&|LAB||HIS||2026||ADT^A01|A2|P|2.5.1|||AL|NE\r"
crash 0 16777216 0 16777216 0
restart 0
`, `
2 down 0
3 up 0
5 down 0
6 up 0
6 out 0 "\x0BMSH|^~\\&|LAB||HIS||2026||ADT^A01|A2|P|2.5.1|||AL|NE\r\x1C\r"
`},
		{`
submit 0 "MSH|^~\\&|LAB||HIS||2026||ADT^A01|A1|P|2.5.1|||AL|AL\r"
sync 0
double 0 0
carry 0 0 0
sync 1
crash 1 0 0 0 0
verdict 1 A1 AA
restart 1
carry 0 0 0
verdict 1 A1 AA
sync 1
`, `
2 out 0 "\x0BMSH|^~\\&|LAB||HIS||2026||ADT^A01|A1|P|2.5.1|||AL|AL\r\x1C\r"
5 out 1 "\x0BMSH|^~\\&|HIS||LAB||20260105000000||ACK^A01^ACK|CA1|P|2.5.1|||NE|NE\rMSA|CA|A1\r\x1C\r"
5 deliver 1 A1 0 new "MSH|^~\\&|LAB||HIS||2026||ADT^A01|A1|P|2.5.1|||AL|AL\r"
6 down 1
7 refused 1 8
8 up 1
8 deliver 1 A1 0 again "MSH|^~\\&|LAB||HIS||2026||ADT^A01|A1|P|2.5.1|||AL|AL\r"
9 out 1 "\x0BMSH|^~\\&|HIS||LAB||20260105000000||ACK^A01^ACK|CA1|P|2.5.1|||NE|NE\rMSA|CA|A1\r\x1C\r"
11 out 1 "\x0BMSH|^~\\&|HIS||LAB||20260105000000||ACK^A01^ACK|AA1|P|2.5.1|||NE|NE\rMSA|AA|A1\r\x1C\r"
`},
		{`
raw 0 "\x0BMSH|^~\\&|LAB||HIS||2026||ADT^A02|B1|P|2.5.1|||AL|AL\r\x1C\r"
carry 0 0 0
raw 0 "\x0BMSH|^~\\&|LAB||HIS||2026||ADT^A01|B2|P|2.5.1\rNK1\r\x1C\r"
carry 0 0 0
raw 0 "\x0Bnothing\x1C\r"
carry 0 0 0
raw 0 "\x0BMSH|^~\\&|LAB||HIS||2026||ADT^A01|B3|P|2.5.1|||AL\rPID|x\x09\r\x1C\r"
carry 0 0 0
raw 0 "\x0BMSH|^~\\&|LAB||HIS||2026||ADT^A01|B4|P|2.5.1|||NE\rNK1\r\x1C\r"
carry 0 0 0
`, `
2 out 1 "\x0BMSH|^~\\&|HIS||LAB||20260105000000||ACK^A02^ACK|CB1|P|2.5.1|||NE|NE\rMSA|CR|B1\rERR||MSH^1^9^1|201^^HL70357|E\r\x1C\r"
4 out 1 "\x0BMSH|^~\\&|HIS||LAB||20260105000000||ACK^A01^ACK|AB2|P|2.5.1\rMSA|AE|B2\rERR||NK1^1|100^^HL70357|E\r\x1C\r"
8 out 1 "\x0BMSH|^~\\&|HIS||LAB||20260105000000||ACK^A01^ACK|CB3|P|2.5.1|||NE|NE\rMSA|CR|B3\rERR||MSH^1^1^1|100^^HL70357|E\r\x1C\r"
`},
		{`
submit 0 "MSH|^~\\&|LAB||HIS||2026||ADT^A01|A1|P|2.5.1|||AL|NE\r"
submit 0 "MSH|^~\\&|LAB||HIS||2026||ADT^A01|A2|P|2.5.1|||AL|NE\r"
sync 0
carry 0 0 0
sync 1
carry 1 0 0
sync 0
raw 0 "\x0BMSH|^~\\&|LAB||HIS||2026||ADT^A01|B9|P|2.5.1|7||AL|NE\r\x1C\r"
carry 0 1 0
carry 0 0 0
sync 1
`, `
3 out 0 "\x0BMSH|^~\\&|LAB||HIS||2026||ADT^A01|A1|P|2.5.1|1||AL|NE\r\x1C\r"
5 out 1 "\x0BMSH|^~\\&|HIS||LAB||20260105000000||ACK^A01^ACK|CA1|P|2.5.1|||NE|NE\rMSA|CA|A1\r\x1C\r"
5 deliver 1 A1 1 new "MSH|^~\\&|LAB||HIS||2026||ADT^A01|A1|P|2.5.1|||AL|NE\r"
7 answer 0 A1 answered CA
7 out 0 "\x0BMSH|^~\\&|LAB||HIS||2026||ADT^A01|A2|P|2.5.1|2||AL|NE\r\x1C\r"
9 out 1 "\x0BMSH|^~\\&|HIS||LAB||20260105000000||ACK^A01^ACK|CB9|P|2.5.1|||NE|NE\rMSA|CE|B9||2\rERR||MSH^1^13^1|207^^HL70357|E\r\x1C\r"
11 out 1 "\x0BMSH|^~\\&|HIS||LAB||20260105000000||ACK^A01^ACK|CA2|P|2.5.1|||NE|NE\rMSA|CA|A2\r\x1C\r"
11 deliver 1 A2 2 new "MSH|^~\\&|LAB||HIS||2026||ADT^A01|A2|P|2.5.1|||AL|NE\r"
`},
		{`
probe 0 P1
sync 0
carry 0 0 0
sync 1
carry 1 0 0
sync 0
resync 0 R1 70
carry 0 0 0
sync 1
carry 1 0 0
sync 0
submit 0 "MSH|^~\\&|LAB||HIS||2026||ADT^A01|A1|P|2.5.1|||AL|NE\r"
sync 0
carry 0 0 0
sync 1
`, `
1 out 0 "\x0BMSH|^~\\&|LAB||HIS||20260105000000||QRY^Q01|P1|P|2.5.1|0\r\x1C\r"
3 out 1 "\x0BMSH|^~\\&|HIS||LAB||20260105000000||ACK^Q01^ACK|AP1|P|2.5.1\rMSA|AA|P1||1\r\x1C\r"
6 answer 0 P1 answered AA
7 out 0 "\x0BMSH|^~\\&|LAB||HIS||20260105000000||QRY^Q01|R1|P|2.5.1|-1\r\x1C\r"
9 out 1 "\x0BMSH|^~\\&|HIS||LAB||20260105000000||ACK^Q01^ACK|AR1|P|2.5.1\rMSA|AA|R1||0\r\x1C\r"
11 answer 0 R1 answered AA
13 out 0 "\x0BMSH|^~\\&|LAB||HIS||2026||ADT^A01|A1|P|2.5.1|70||AL|NE\r\x1C\r"
15 out 1 "\x0BMSH|^~\\&|HIS||LAB||20260105000000||ACK^A01^ACK|CA1|P|2.5.1|||NE|NE\rMSA|CA|A1\r\x1C\r"
15 deliver 1 A1 70 new "MSH|^~\\&|LAB||HIS||2026||ADT^A01|A1|P|2.5.1|||AL|NE\r"
`},
		{`
submit 0 "MSH|^~\\&|LAB||HIS||2026||ADT^A01|A1|P|2.5.1|||AL|AL\r"
compact 0
fuse 1 0
carry 0 0 0
tick 2 5
crash 1 0 0 0 0
restart 1
carry 0 0 0
sync 1
`, `
2 out 0 "\x0BMSH|^~\\&|LAB||HIS||2026||ADT^A01|A1|P|2.5.1|||AL|AL\r\x1C\r"
4 down 1
5 out 0 "\x0BMSH|^~\\&|LAB||HIS||2026||ADT^A01|A1|P|2.5.1|||AL|AL\r\x1C\r"
7 up 1
9 out 1 "\x0BMSH|^~\\&|HIS||LAB||20260105000005||ACK^A01^ACK|CA1|P|2.5.1|||NE|NE\rMSA|CA|A1\r\x1C\r"
9 deliver 1 A1 0 new "MSH|^~\\&|LAB||HIS||2026||ADT^A01|A1|P|2.5.1|||AL|AL\r"
`},
	}
}
