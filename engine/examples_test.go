package engine

import (
	"strconv"
	"strings"
	"testing"

	"courier/api"
	"courier/disk"
)

// The examples of DOC.md, played with two engines and a list of frames for each direction.

type player struct {
	t      *testing.T
	setup  api.Setup
	disks  [2]*disk.Disk
	sides  [2]*Engine
	clocks [2]int
	flight [2][]string
	report strings.Builder
}

// quoted writes bytes as a report does.
func quoted(text string) string {
	var b strings.Builder
	for _, c := range []byte(text) {
		switch {
		case c == '"' || c == '\\':
			b.WriteString("\\" + string(rune(c)))
		case c == '\r':
			b.WriteString(`\r`)
		case c >= 0x20 && c <= 0x7E:
			b.WriteByte(c)
		default:
			b.WriteString(`\x` + strings.ToUpper(strconv.FormatInt(int64(c)+256, 16)[1:]))
		}
	}
	return `"` + b.String() + `"`
}

func (p *player) line(event int, s api.Seen) {
	words := []string{strconv.Itoa(event), "", strconv.Itoa(s.Side)}
	switch s.Kind {
	case api.SeenOut:
		words[1] = "out"
		words = append(words, quoted(string(s.Text)))
		p.flight[s.Side] = append(p.flight[s.Side], string(s.Text))
	case api.SeenDeliver:
		words[1] = "deliver"
		words = append(words, s.Control, strconv.Itoa(s.Number), map[bool]string{true: "again", false: "new"}[s.Again], quoted(string(s.Text)))
	case api.SeenAnswer:
		code := s.Code
		if code == "" {
			code = "-"
		}
		words[1] = "answer"
		words = append(words, s.Control, map[int]string{1: "answered", 2: "closed", 3: "failed"}[s.State], code)
		for _, f := range s.Errors {
			words = append(words, findingText(f))
		}
	case api.SeenDown:
		words[1] = "down"
		p.sides[s.Side] = nil
	case api.SeenUp:
		words[1] = "up"
	case api.SeenRefused:
		words[1] = "refused"
		words = append(words, strconv.Itoa(int(s.Errno)))
	}
	p.report.WriteString(strings.Join(words, " ") + "\n")
}

func (p *player) event(number int, text string) {
	words := strings.SplitN(text, " ", 3)
	side, _ := strconv.Atoi(words[1])
	rest := append(words, "")[2]
	args := strings.Fields(rest)
	n := make([]int, 9)
	for i, a := range args {
		n[i], _ = strconv.Atoi(a)
	}
	literal, _ := strconv.Unquote(rest)
	e := p.sides[min(side, 1)]
	call := func(f func() ([]api.Seen, error)) []api.Seen {
		if e == nil {
			return []api.Seen{{Kind: api.SeenRefused, Side: side, Errno: api.ErrDead}}
		}
		seen, err := f()
		if err != nil {
			p.t.Fatalf("%s: %v", text, err)
		}
		return seen
	}
	var seen []api.Seen
	switch words[0] {
	case "submit":
		seen = call(func() ([]api.Seen, error) { return e.Submit([]byte(literal)) })
	case "verdict":
		var found []api.Finding
		if len(args) > 2 {
			found = []api.Finding{{Code: n[2]}}
		}
		seen = call(func() ([]api.Seen, error) { return e.Verdict(args[0], args[1], found) })
	case "sync":
		seen = call(e.Sync)
	case "compact":
		seen = call(e.Compact)
	case "probe":
		seen = call(func() ([]api.Seen, error) { return e.Probe(args[0]) })
	case "resync":
		seen = call(func() ([]api.Seen, error) { return e.Resync(args[0], n[1]) })
	case "tick":
		for i := range p.sides {
			if side != 2 && side != i {
				continue
			}
			p.clocks[i] += n[0]
			if e = p.sides[i]; e != nil {
				seen = append(seen, call(func() ([]api.Seen, error) { return e.Tick(n[0]) })...)
			}
		}
	case "raw":
		p.flight[side] = append(p.flight[side], literal)
	case "drop":
		p.flight[side] = p.flight[side][1:]
	case "double":
		p.flight[side] = append(p.flight[side], p.flight[side][0])
	case "carry":
		piece := p.flight[side][n[0]]
		p.flight[side] = append(append([]string(nil), p.flight[side][:n[0]]...), p.flight[side][n[0]+1:]...)
		if e = p.sides[1-side]; e != nil {
			seen = call(func() ([]api.Seen, error) { return e.Arrive([]byte(piece)) })
		}
	case "fuse":
		p.disks[side].Fuse(n[0])
	case "crash":
		p.disks[side].Crash([2]api.Tear{{Keep: n[0], Zeros: n[1]}, {Keep: n[2], Zeros: n[3]}})
		if e != nil {
			seen = []api.Seen{{Kind: api.SeenDown, Side: side}}
		}
	case "restart":
		var err error
		p.sides[side], seen, err = Open(p.setup, side, p.disks[side], p.clocks[side])
		if err != nil {
			p.t.Fatal(err)
		}
	default:
		p.t.Fatal(text)
	}
	for _, s := range seen {
		p.line(number, s)
	}
}

func play(t *testing.T, s api.Setup, script string) string {
	p := &player{t: t, setup: s}
	for side := range p.sides {
		p.disks[side] = disk.New()
		e, _, err := New(s, side, p.disks[side], 0)
		if err != nil {
			t.Fatal(err)
		}
		p.sides[side] = e
	}
	for i, line := range strings.Split(strings.TrimSpace(script), "\n") {
		p.event(i+1, line)
	}
	return p.report.String()
}

func TestExamples(t *testing.T) {
	for i, x := range examples() {
		s := pair()
		s.Sides[0].Sequence = x.numbers
		if got := play(t, s, x.script); got != x.report[1:] {
			t.Errorf("example %d:\n%s\nwant\n%s", i+1, got, x.report[1:])
		}
	}
}

type example struct {
	numbers        bool
	script, report string
}

func examples() []example {
	return []example{
		{false, `
submit 0 "MSH|^~\\&|LAB||HIS||2026||ADT^A01|A1|P|2.5.1|||AL|AL\r"
sync 0
carry 0 0 0
sync 1
carry 1 0 0
verdict 1 A1 AA
sync 1
carry 1 0 0
sync 0
`, `
2 out 0 "\x0BMSH|^~\\&|LAB||HIS||2026||ADT^A01|A1|P|2.5.1|||AL|AL\r\x1C\r"
4 out 1 "\x0BMSH|^~\\&|HIS||LAB||20260105000000||ACK^A01^ACK|CA1|P|2.5.1|||NE|NE\rMSA|CA|A1\r\x1C\r"
4 deliver 1 A1 0 new "MSH|^~\\&|LAB||HIS||2026||ADT^A01|A1|P|2.5.1|||AL|AL\r"
7 out 1 "\x0BMSH|^~\\&|HIS||LAB||20260105000000||ACK^A01^ACK|AA1|P|2.5.1|||NE|NE\rMSA|AA|A1\r\x1C\r"
9 answer 0 A1 answered AA
`},
		{false, `
submit 0 "MSH|^~\\&|LAB||HIS||2026||ADT^A01|A1|P|2.5.1\r"
sync 0
carry 0 0 0
sync 1
verdict 1 A1 AE 207 - 0 0 0 0 0
sync 1
carry 1 0 0
sync 0
`, `
2 out 0 "\x0BMSH|^~\\&|LAB||HIS||2026||ADT^A01|A1|P|2.5.1\r\x1C\r"
4 deliver 1 A1 0 new "MSH|^~\\&|LAB||HIS||2026||ADT^A01|A1|P|2.5.1\r"
6 out 1 "\x0BMSH|^~\\&|HIS||LAB||20260105000000||ACK^A01^ACK|AA1|P|2.5.1\rMSA|AE|A1\rERR|||207^^HL70357|E\r\x1C\r"
8 answer 0 A1 answered AE 207 - 0 0 0 0 0
`},
		{false, `
submit 0 "MSH|^~\\&|LAB||HIS||2026||ADT^A01|A1|P|2.5.1|||AL|NE\r"
sync 0
drop 0 0
tick 0 4
tick 0 1
drop 0 0
tick 0 5
sync 0
`, `
2 out 0 "\x0BMSH|^~\\&|LAB||HIS||2026||ADT^A01|A1|P|2.5.1|||AL|NE\r\x1C\r"
5 out 0 "\x0BMSH|^~\\&|LAB||HIS||2026||ADT^A01|A1|P|2.5.1|||AL|NE\r\x1C\r"
8 answer 0 A1 failed -
`},
		{false, `
submit 0 "MSH|^~\\&|LAB||HIS||2026||ADT^A01|A1|P|2.5.1|||AL|AL\r"
sync 0
double 0 0
carry 0 0 0
sync 1
verdict 1 A1 AA
sync 1
carry 0 0 0
`, `
2 out 0 "\x0BMSH|^~\\&|LAB||HIS||2026||ADT^A01|A1|P|2.5.1|||AL|AL\r\x1C\r"
5 out 1 "\x0BMSH|^~\\&|HIS||LAB||20260105000000||ACK^A01^ACK|CA1|P|2.5.1|||NE|NE\rMSA|CA|A1\r\x1C\r"
5 deliver 1 A1 0 new "MSH|^~\\&|LAB||HIS||2026||ADT^A01|A1|P|2.5.1|||AL|AL\r"
7 out 1 "\x0BMSH|^~\\&|HIS||LAB||20260105000000||ACK^A01^ACK|AA1|P|2.5.1|||NE|NE\rMSA|AA|A1\r\x1C\r"
8 out 1 "\x0BMSH|^~\\&|HIS||LAB||20260105000000||ACK^A01^ACK|CA1|P|2.5.1|||NE|NE\rMSA|CA|A1\r\x1C\r"
8 out 1 "\x0BMSH|^~\\&|HIS||LAB||20260105000000||ACK^A01^ACK|AA1|P|2.5.1|||NE|NE\rMSA|AA|A1\r\x1C\r"
`},
		{false, `
submit 0 "MSH|^~\\&|LAB||HIS||2026||ADT^A01|A1|P|2.5.1|||AL|AL\r"
crash 0 0 0 0 0
restart 0
submit 0 "MSH|^~\\&|LAB||HIS||2026||ADT^A01|A2|P|2.5.1|||AL|NE\r"
crash 0 16777216 0 16777216 0
restart 0
`, `
2 down 0
3 up 0
5 down 0
6 up 0
6 out 0 "\x0BMSH|^~\\&|LAB||HIS||2026||ADT^A01|A2|P|2.5.1|||AL|NE\r\x1C\r"
`},
		{false, `
submit 0 "MSH|^~\\&|LAB||HIS||2026||ADT^A01|A1|P|2.5.1|||AL|AL\r"
sync 0
double 0 0
carry 0 0 0
sync 1
crash 1 0 0 0 0
verdict 1 A1 AA
restart 1
carry 0 0 0
verdict 1 A1 AA
sync 1
`, `
2 out 0 "\x0BMSH|^~\\&|LAB||HIS||2026||ADT^A01|A1|P|2.5.1|||AL|AL\r\x1C\r"
5 out 1 "\x0BMSH|^~\\&|HIS||LAB||20260105000000||ACK^A01^ACK|CA1|P|2.5.1|||NE|NE\rMSA|CA|A1\r\x1C\r"
5 deliver 1 A1 0 new "MSH|^~\\&|LAB||HIS||2026||ADT^A01|A1|P|2.5.1|||AL|AL\r"
6 down 1
7 refused 1 8
8 up 1
8 deliver 1 A1 0 again "MSH|^~\\&|LAB||HIS||2026||ADT^A01|A1|P|2.5.1|||AL|AL\r"
9 out 1 "\x0BMSH|^~\\&|HIS||LAB||20260105000000||ACK^A01^ACK|CA1|P|2.5.1|||NE|NE\rMSA|CA|A1\r\x1C\r"
11 out 1 "\x0BMSH|^~\\&|HIS||LAB||20260105000000||ACK^A01^ACK|AA1|P|2.5.1|||NE|NE\rMSA|AA|A1\r\x1C\r"
`},
		{false, `
raw 0 "\x0BMSH|^~\\&|LAB||HIS||2026||ADT^A02|B1|P|2.5.1|||AL|AL\r\x1C\r"
carry 0 0 0
raw 0 "\x0BMSH|^~\\&|LAB||HIS||2026||ADT^A01|B2|P|2.5.1\rNK1\r\x1C\r"
carry 0 0 0
raw 0 "\x0Bnothing\x1C\r"
carry 0 0 0
raw 0 "\x0BMSH|^~\\&|LAB||HIS||2026||ADT^A01|B3|P|2.5.1|||AL\rPID|x\x09\r\x1C\r"
carry 0 0 0
raw 0 "\x0BMSH|^~\\&|LAB||HIS||2026||ADT^A01|B4|P|2.5.1|||NE\rNK1\r\x1C\r"
carry 0 0 0
`, `
2 out 1 "\x0BMSH|^~\\&|HIS||LAB||20260105000000||ACK^A02^ACK|CB1|P|2.5.1|||NE|NE\rMSA|CR|B1\rERR||MSH^1^9^1|201^^HL70357|E\r\x1C\r"
4 out 1 "\x0BMSH|^~\\&|HIS||LAB||20260105000000||ACK^A01^ACK|AB2|P|2.5.1\rMSA|AE|B2\rERR||NK1^1|100^^HL70357|E\r\x1C\r"
8 out 1 "\x0BMSH|^~\\&|HIS||LAB||20260105000000||ACK^A01^ACK|CB3|P|2.5.1|||NE|NE\rMSA|CR|B3\rERR||MSH^1^1^1|100^^HL70357|E\r\x1C\r"
`},
		{true, `
submit 0 "MSH|^~\\&|LAB||HIS||2026||ADT^A01|A1|P|2.5.1|||AL|NE\r"
submit 0 "MSH|^~\\&|LAB||HIS||2026||ADT^A01|A2|P|2.5.1|||AL|NE\r"
sync 0
carry 0 0 0
sync 1
carry 1 0 0
sync 0
raw 0 "\x0BMSH|^~\\&|LAB||HIS||2026||ADT^A01|B9|P|2.5.1|7||AL|NE\r\x1C\r"
carry 0 1 0
carry 0 0 0
sync 1
`, `
3 out 0 "\x0BMSH|^~\\&|LAB||HIS||2026||ADT^A01|A1|P|2.5.1|1||AL|NE\r\x1C\r"
5 out 1 "\x0BMSH|^~\\&|HIS||LAB||20260105000000||ACK^A01^ACK|CA1|P|2.5.1|||NE|NE\rMSA|CA|A1\r\x1C\r"
5 deliver 1 A1 1 new "MSH|^~\\&|LAB||HIS||2026||ADT^A01|A1|P|2.5.1|||AL|NE\r"
7 answer 0 A1 answered CA
7 out 0 "\x0BMSH|^~\\&|LAB||HIS||2026||ADT^A01|A2|P|2.5.1|2||AL|NE\r\x1C\r"
9 out 1 "\x0BMSH|^~\\&|HIS||LAB||20260105000000||ACK^A01^ACK|CB9|P|2.5.1|||NE|NE\rMSA|CE|B9||2\rERR||MSH^1^13^1|207^^HL70357|E\r\x1C\r"
11 out 1 "\x0BMSH|^~\\&|HIS||LAB||20260105000000||ACK^A01^ACK|CA2|P|2.5.1|||NE|NE\rMSA|CA|A2\r\x1C\r"
11 deliver 1 A2 2 new "MSH|^~\\&|LAB||HIS||2026||ADT^A01|A2|P|2.5.1|||AL|NE\r"
`},
		{true, `
probe 0 P1
sync 0
carry 0 0 0
sync 1
carry 1 0 0
sync 0
resync 0 R1 70
carry 0 0 0
sync 1
carry 1 0 0
sync 0
submit 0 "MSH|^~\\&|LAB||HIS||2026||ADT^A01|A1|P|2.5.1|||AL|NE\r"
sync 0
carry 0 0 0
sync 1
`, `
1 out 0 "\x0BMSH|^~\\&|LAB||HIS||20260105000000||QRY^Q01|P1|P|2.5.1|0\r\x1C\r"
3 out 1 "\x0BMSH|^~\\&|HIS||LAB||20260105000000||ACK^Q01^ACK|AP1|P|2.5.1\rMSA|AA|P1||1\r\x1C\r"
6 answer 0 P1 answered AA
7 out 0 "\x0BMSH|^~\\&|LAB||HIS||20260105000000||QRY^Q01|R1|P|2.5.1|-1\r\x1C\r"
9 out 1 "\x0BMSH|^~\\&|HIS||LAB||20260105000000||ACK^Q01^ACK|AR1|P|2.5.1\rMSA|AA|R1||0\r\x1C\r"
11 answer 0 R1 answered AA
13 out 0 "\x0BMSH|^~\\&|LAB||HIS||2026||ADT^A01|A1|P|2.5.1|70||AL|NE\r\x1C\r"
15 out 1 "\x0BMSH|^~\\&|HIS||LAB||20260105000000||ACK^A01^ACK|CA1|P|2.5.1|||NE|NE\rMSA|CA|A1\r\x1C\r"
15 deliver 1 A1 70 new "MSH|^~\\&|LAB||HIS||2026||ADT^A01|A1|P|2.5.1|||AL|NE\r"
`},
		{false, `
submit 0 "MSH|^~\\&|LAB||HIS||2026||ADT^A01|A1|P|2.5.1|||AL|AL\r"
compact 0
fuse 1 0
carry 0 0 0
tick 2 5
crash 1 0 0 0 0
restart 1
carry 0 0 0
sync 1
`, `
2 out 0 "\x0BMSH|^~\\&|LAB||HIS||2026||ADT^A01|A1|P|2.5.1|||AL|AL\r\x1C\r"
4 down 1
5 out 0 "\x0BMSH|^~\\&|LAB||HIS||2026||ADT^A01|A1|P|2.5.1|||AL|AL\r\x1C\r"
7 up 1
9 out 1 "\x0BMSH|^~\\&|HIS||LAB||20260105000005||ACK^A01^ACK|CA1|P|2.5.1|||NE|NE\rMSA|CA|A1\r\x1C\r"
9 deliver 1 A1 0 new "MSH|^~\\&|LAB||HIS||2026||ADT^A01|A1|P|2.5.1|||AL|AL\r"
`},
	}
}
