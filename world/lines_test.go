package world

import (
	"fmt"
	"math/rand/v2"
	"regexp"
	"strconv"
	"strings"

	"courier/api"
)

// The chapter's tables once more, as patterns: a second reader of lines, and a second writer.

// place is one of a line: what it is called, and for numbers from where to where they go.
type place struct {
	name        string
	least, most int
}

// row is a kind of line.
type row struct {
	kind   int
	word   string
	places []place
}

func n(name string, least, most int) place { return place{name, least, most} }

var (
	oneSide  = n("side", 0, 1)
	control  = place{name: "control"}
	textual  = place{name: "text"}
	found    = place{name: "findings"}
	anyIndex = n("index", 0, 10000)
	anyCount = n("count", 0, 10000)
)

func eventRows() []row {
	tail := func(name string) place { return n(name, 0, 16777216) }
	return []row{
		{1, "submit", []place{oneSide, textual}},
		{2, "verdict", []place{oneSide, control, {name: "code"}, found}},
		{3, "tick", []place{n("side", 0, 2), n("count", 1, 100000)}},
		{4, "sync", []place{oneSide}},
		{5, "compact", []place{oneSide}},
		{6, "fuse", []place{oneSide, n("count", -1, 1000000)}},
		{7, "crash", []place{oneSide, tail("keep0"), tail("zeros0"), tail("keep1"), tail("zeros1")}},
		{8, "restart", []place{oneSide}},
		{9, "probe", []place{oneSide, control}},
		{10, "resync", []place{oneSide, control, n("count", 0, 2147483647)}},
		{11, "carry", []place{oneSide, anyIndex, anyCount}},
		{12, "drop", []place{oneSide, anyIndex}},
		{13, "double", []place{oneSide, anyIndex}},
		{14, "clip", []place{oneSide, anyIndex, anyCount}},
		{15, "noise", []place{oneSide, textual}},
		{16, "raw", []place{oneSide, textual}},
	}
}

func seenRows() []row {
	return []row{
		{1, "out", []place{oneSide, textual}},
		{2, "deliver", []place{oneSide, control, n("number", 0, 2147483647), {name: "again"}, textual}},
		{3, "answer", []place{oneSide, control, {name: "state"}, {name: "answer"}, found}},
		{4, "down", []place{oneSide}},
		{5, "up", []place{oneSide}},
		{6, "refused", []place{oneSide, n("errno", 1, 999)}},
		{7, "lost", []place{oneSide}},
	}
}

const (
	wordPattern   = `[!#-~]{1,64}`
	numberPattern = `(?:0|-?[1-9][0-9]{0,11})`
	bytesPattern  = `"(?:[ !#-\[\]-~]|\\["\\r]|\\x(?:0[0-9A-CEF]|1[0-9A-F]|7F|[89A-F][0-9A-F]))*"`
)

// pattern is how a place may look, whatever its number is.
func (p place) pattern() string {
	switch p.name {
	case "control", "code", "answer":
		return " (" + wordPattern + ")"
	case "text":
		return " (" + bytesPattern + ")"
	case "findings":
		return "((?: " + numberPattern + " " + wordPattern + strings.Repeat(" "+numberPattern, 5) + ")*)"
	case "again":
		return " (new|again)"
	case "state":
		return " (answered|closed|failed)"
	}
	return " (" + numberPattern + ")"
}

// values are what a line's places say.
type values map[string]string

// patterned is a row with its pattern.
type patterned struct {
	row
	is *regexp.Regexp
}

func patternsOf(rows []row, ahead string) []patterned {
	var list []patterned
	for _, r := range rows {
		text := `\A` + ahead + r.word
		for _, p := range r.places {
			text += p.pattern()
		}
		list = append(list, patterned{r, regexp.MustCompile(text + `\z`)})
	}
	return list
}

var (
	eventPatterns = patternsOf(eventRows(), "")
	seenPatterns  = patternsOf(seenRows(), "("+numberPattern+") ")
)

func within(text string, least, most int) bool {
	v, err := strconv.Atoi(text)
	return err == nil && v >= least && v <= most
}

// read gives what a line says, if it is of this row.
func (r patterned) read(line string) (values, bool) {
	m := r.is.FindStringSubmatch(line)
	if m == nil {
		return nil, false
	}
	v, m := values{}, m[1:]
	if len(m) > len(r.places) {
		v["event"], m = m[0], m[1:]
		if !within(v["event"], 0, lastLine) {
			return nil, false
		}
	}
	for i, p := range r.places {
		v[p.name] = m[i]
		if strings.HasPrefix(p.pattern(), " ("+numberPattern) && !within(m[i], p.least, p.most) {
			return nil, false
		}
	}
	words := strings.Fields(v["findings"])
	for i, w := range words {
		if i%7 != 1 && !within(w, 0, 999) {
			return nil, false
		}
	}
	return v, true
}

func (v values) number(name string) int {
	at, _ := strconv.Atoi(v[name])
	return at
}

func (v values) bytes() []byte {
	if v["text"] == "" {
		return nil
	}
	text, err := strconv.Unquote(v["text"])
	if err != nil {
		panic(err)
	}
	return []byte(text)
}

func orEmpty(word string) string {
	if word == "-" {
		return ""
	}
	return word
}

func (v values) findings() []api.Finding {
	var list []api.Finding
	for words := strings.Fields(v["findings"]); len(words) > 0; words = words[7:] {
		at := func(i int) int { return values{"": words[i]}.number("") }
		list = append(list, api.Finding{Code: at(0), Seg: orEmpty(words[1]), Occur: at(2), Field: at(3), Rep: at(4), Comp: at(5), Sub: at(6)})
	}
	return list
}

// secondEvent reads a script's line.
func secondEvent(line string) (api.Event, bool) {
	for _, r := range eventPatterns {
		if v, ok := r.read(line); ok {
			return api.Event{
				Kind: api.EventKind(r.kind), Side: v.number("side"), Text: v.bytes(), Control: v["control"], Code: v["code"],
				Errors: v.findings(), Index: v.number("index"), Count: v.number("count"),
				Tears: [2]api.Tear{{Keep: v.number("keep0"), Zeros: v.number("zeros0")}, {Keep: v.number("keep1"), Zeros: v.number("zeros1")}},
			}, true
		}
	}
	return api.Event{}, false
}

// secondSeen reads a report's line.
func secondSeen(line string) (int, api.Seen, bool) {
	for _, r := range seenPatterns {
		if v, ok := r.read(line); ok {
			return v.number("event"), api.Seen{
				Kind: api.SeenKind(r.kind), Side: v.number("side"), Text: v.bytes(), Control: v["control"], Number: v.number("number"),
				Again: v["again"] == "again", State: map[string]int{"answered": 1, "closed": 2, "failed": 3}[v["state"]],
				Code: orEmpty(v["answer"]), Errors: v.findings(), Errno: api.Errno(v.number("errno")),
			}, true
		}
	}
	return 0, api.Seen{}, false
}

// secondQuoted writes bytes.
func secondQuoted(p []byte) string {
	text := ""
	for _, b := range p {
		switch {
		case b == '"' || b == '\\':
			text += `\` + string(rune(b))
		case b == 13:
			text += `\r`
		case b >= 0x20 && b <= 0x7e:
			text += string(rune(b))
		default:
			text += fmt.Sprintf(`\x%02X`, b)
		}
	}
	return `"` + text + `"`
}

func orNone(word string) string {
	if word == "" {
		return "-"
	}
	return word
}

func secondFindings(list []api.Finding) string {
	text := ""
	for _, f := range list {
		text += fmt.Sprintf(" %d %s %d %d %d %d %d", f.Code, orNone(f.Seg), f.Occur, f.Field, f.Rep, f.Comp, f.Sub)
	}
	return text
}

// secondEventLine writes an event that a line says.
func secondEventLine(e api.Event) string {
	r := eventRows()[e.Kind-1]
	text := r.word
	for _, p := range r.places {
		text += map[string]string{
			"side": fmt.Sprintf(" %d", e.Side), "text": " " + secondQuoted(e.Text), "control": " " + e.Control, "code": " " + e.Code,
			"findings": secondFindings(e.Errors), "index": fmt.Sprintf(" %d", e.Index), "count": fmt.Sprintf(" %d", e.Count),
			"keep0": fmt.Sprintf(" %d", e.Tears[0].Keep), "zeros0": fmt.Sprintf(" %d", e.Tears[0].Zeros),
			"keep1": fmt.Sprintf(" %d", e.Tears[1].Keep), "zeros1": fmt.Sprintf(" %d", e.Tears[1].Zeros),
		}[p.name]
	}
	return text
}

// secondSeenLine writes a thing that a line tells.
func secondSeenLine(at int, s api.Seen) string {
	r := seenRows()[s.Kind-1]
	text := fmt.Sprintf("%d %s", at, r.word)
	for _, p := range r.places {
		text += map[string]string{
			"side": fmt.Sprintf(" %d", s.Side), "text": " " + secondQuoted(s.Text), "control": " " + s.Control,
			"number": fmt.Sprintf(" %d", s.Number), "again": map[bool]string{false: " new", true: " again"}[s.Again],
			"state": []string{"", " answered", " closed", " failed"}[max(s.State, 0)], "answer": " " + orNone(s.Code),
			"findings": secondFindings(s.Errors), "errno": fmt.Sprintf(" %d", s.Errno),
		}[p.name]
	}
	return text
}

// Lines by chance.

type maker struct{ *rand.Rand }

func newMaker(one, two uint64) maker { return maker{rand.New(rand.NewPCG(one, two))} }

func pick[T any](m maker, list ...T) T { return list[m.IntN(len(list))] }

// number gives one from least to most, borders often.
func (m maker) number(least, most int) int {
	return pick(m, least, most, least+m.IntN(most-least+1), least+m.IntN(min(most-least+1, 12)))
}

func (m maker) word() string {
	letters := "!#$%&'()*+,-./0189:;<=>?@AZ[\\]^_`az{|}~"
	text := make([]byte, pick(m, 1, 2, 3, 18, 63, 64))
	for i := range text {
		text[i] = letters[m.IntN(len(letters))]
	}
	return pick(m, string(text), "A1", "events", "setup", "-", "0", "AA")
}

func (m maker) bytes() []byte {
	p := make([]byte, m.IntN(12))
	for i := range p {
		p[i] = pick(m, byte(m.IntN(256)), '"', '\\', '\r', '\n', ' ', '~', 0x7f, 'x', 'r', '0', 'D', 0x1f, 0x80, 0xff, 0)
	}
	return p
}

func (m maker) findings() []api.Finding {
	var list []api.Finding
	for range pick(m, 0, 0, 1, 2, 3) {
		seg := m.word()
		if seg == "-" {
			seg = ""
		}
		list = append(list, api.Finding{Code: m.number(0, 999), Seg: seg, Occur: m.number(0, 999), Field: m.number(0, 999), Rep: m.number(0, 999), Comp: m.number(0, 999), Sub: m.number(0, 999)})
	}
	return list
}

// event gives one that a line says.
func (m maker) event() api.Event {
	r := pick(m, eventRows()...)
	e := api.Event{Kind: api.EventKind(r.kind)}
	for _, p := range r.places {
		switch p.name {
		case "side":
			e.Side = m.number(p.least, p.most)
		case "text":
			e.Text = m.bytes()
		case "control":
			e.Control = m.word()
		case "code":
			e.Code = m.word()
		case "findings":
			e.Errors = m.findings()
		case "index":
			e.Index = m.number(p.least, p.most)
		case "count":
			e.Count = m.number(p.least, p.most)
		case "keep0":
			e.Tears[0].Keep = m.number(p.least, p.most)
		case "zeros0":
			e.Tears[0].Zeros = m.number(p.least, p.most)
		case "keep1":
			e.Tears[1].Keep = m.number(p.least, p.most)
		case "zeros1":
			e.Tears[1].Zeros = m.number(p.least, p.most)
		}
	}
	return e
}

// seen gives a thing that a line tells.
func (m maker) seen() api.Seen {
	r := pick(m, seenRows()...)
	s := api.Seen{Kind: api.SeenKind(r.kind)}
	for _, p := range r.places {
		switch p.name {
		case "side":
			s.Side = m.number(p.least, p.most)
		case "text":
			s.Text = m.bytes()
		case "control":
			s.Control = m.word()
		case "number":
			s.Number = m.number(p.least, p.most)
		case "again":
			s.Again = m.IntN(2) == 1
		case "state":
			s.State = m.number(1, 3)
		case "answer":
			s.Code = strings.TrimPrefix(m.word(), "-")
		case "findings":
			s.Errors = m.findings()
		case "errno":
			s.Errno = api.Errno(m.number(p.least, p.most))
		}
	}
	return s
}

// spoilt changes a line a little; mostly it is none then.
func (m maker) spoilt(line string) string {
	at := m.IntN(len(line) + 1)
	words := strings.Split(line, " ")
	i := m.IntN(len(words))
	bits := []string{" ", "  ", "\"", "\\", "\\x", "\\x41", "\\x0D", "\\x0d", "\\x0A", "\\xff", "\\xFF", "\\n", "\\r", "0", "-", "+", "1", "\t", "\r", "\x00", "\x7f", "\xff", "é", "a", "A", "_", " 0", "0 ", "\x0b"}
	switch m.IntN(7) {
	case 0:
		return line[:at] + pick(m, bits...) + line[at:]
	case 1:
		return line[:at] + line[min(at+1+m.IntN(3), len(line)):]
	case 2:
		return strings.Join(append(append([]string{}, words[:i]...), words[i+1:]...), " ")
	case 3:
		words[i] = pick(m, "", "-", "-0", "00", "01", "+0", "+1", "-1", "-2", "2", "3", "1000", "999", "10001", "100001", "1000001", "16777217", "2147483648", "9223372036854775808", "1e3", "0x1", "1_0", "1.0", "١", strings.Repeat("w", 64), strings.Repeat("w", 65), strings.ToUpper(words[i]), words[i]+words[i])
		return strings.Join(words, " ")
	case 4:
		return strings.Join(append(append(append([]string{}, words[:i]...), words[i]), words[i:]...), " ")
	case 5:
		return line[:at]
	}
	if at == len(line) {
		return line + pick(m, bits...)
	}
	return line[:at] + pick(m, bits...) + line[at+1:]
}
