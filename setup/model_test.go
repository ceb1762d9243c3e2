package setup

import (
	"errors"
	"math/rand/v2"
	"regexp"
	"slices"
	"strings"
	"testing"
	"time"

	"courier/api"
	"courier/profile"
)

// The model reads lines by patterns, and keeps a plain list of what has stood.

// example is the text of the chapter's first example.
const example = `start 20260105000000
version 2.5.1
side a
app LAB
facility ""
marks "|^~\\&"
process P
sequence on
every 10
tries 3
keep 16
compact 64
side b
app HIS # the other one
facility NORTH
process P
sequence off
every 5
tries 0
keep 1
compact 8
structures
`

// exampleSetup is what it says.
func exampleSetup() api.Setup {
	usual := api.Marks{Field: '|', Comp: '^', Rep: '~', Esc: '\\', Sub: '&'}
	return api.Setup{
		Start: "20260105000000", Version: "2.5.1",
		Sides: [2]api.Side{
			{App: "LAB", Marks: usual, Process: "P", Sequence: true, Every: 10, Tries: 3, Keep: 16, Compact: 64},
			{App: "HIS", Facility: "NORTH", Marks: usual, Process: "P", Every: 5, Keep: 1, Compact: 8},
		},
	}
}

func exampleLines() []string { return strings.Split(strings.TrimSuffix(example, "\n"), "\n") }

func joined(lines []string) string { return strings.Join(lines, "\n") + "\n" }

// with is the example with other lines for those from number n on.
func with(n int, lines ...string) string {
	all := exampleLines()
	copy(all[n-1:], lines)
	return joined(all)
}

// ahead is the example with lines put ahead of line n.
func ahead(n int, lines ...string) string {
	return joined(slices.Insert(exampleLines(), n-1, lines...))
}

// without is the example without line n.
func without(n int) string { return joined(slices.Delete(exampleLines(), n-1, n)) }

// refused fails the test where an error is none of this layer with that number and place and nothing under it.
func refused(t *testing.T, what string, err error, code api.Errno, at int) {
	t.Helper()
	f, ok := err.(*api.Fault)
	if !ok || f == nil || f.Layer != "setup" || f.Code != code || f.At != at || f.Under != nil || !errors.Is(err, code) {
		t.Errorf("%.300q: %v, want number %d at %d", what, err, code, at)
	}
}

// refuses holds that Parse refuses a text so, and tells nothing else.
func refuses(t *testing.T, text string, code api.Errno, at int) {
	t.Helper()
	s, err := Parse(text)
	refused(t, text, err, code, at)
	if s != (api.Setup{}) {
		t.Errorf("%.300q: %+v beside a refusal", text, s)
	}
}

// says holds that a text says a setup.
func says(t *testing.T, text string, want api.Setup) {
	t.Helper()
	s, err := Parse(text)
	if err != nil || s != want {
		t.Errorf("%.300q: %+v, %v, want %+v", text, s, err, want)
	}
}

const (
	firstKind  = `[!$-~]{1,64}`
	secondKind = `"(?:[ !#-\[\]-~]|\\["\\]){0,64}"`
	eitherKind = `(?:` + firstKind + `|` + secondKind + `)`
)

var (
	lineForm    = regexp.MustCompile(`(?s)^[ \t]*(?:` + eitherKind + `(?:[ \t]+` + eitherKind + `)*)?[ \t]*(?:#.*)?$`)
	wordForm    = regexp.MustCompile(`^` + eitherKind)
	secondsForm = regexp.MustCompile(`^[0-9]{14}$`)
	versionForm = regexp.MustCompile(`^2\.(1|2|3|3\.1|4|5|5\.1)$`)
	nameForm    = regexp.MustCompile(`^[0-9A-Za-z_.\-]{1,20}$`)
	emptyForm   = regexp.MustCompile(`^$`)
	processForm = regexp.MustCompile(`^[PDT]$`)
	onOffForm   = regexp.MustCompile(`^(on|off)$`)
	numberForm  = regexp.MustCompile(`^(0|[1-9][0-9]{0,8})$`)
	pairs       = strings.NewReplacer(`\"`, `"`, `\\`, `\`)
)

const allMarks = "!\"#$%&'()*+,-./:;<=>?@[\\]^_`{|}~"

type modelWord struct {
	text   string
	second bool
}

// modelWords tells a line's words; false: it is no line.
func modelWords(line string) ([]modelWord, bool) {
	if !lineForm.MatchString(line) {
		return nil, false
	}
	var words []modelWord
	for {
		line = strings.TrimLeft(line, " \t")
		if line == "" || line[0] == '#' {
			return words, true
		}
		w := wordForm.FindString(line)
		line = line[len(w):]
		if w[0] == '"' {
			words = append(words, modelWord{pairs.Replace(w[1 : len(w)-1]), true})
		} else {
			words = append(words, modelWord{w, false})
		}
	}
}

func isModelStart(text string) bool {
	at, err := time.Parse("20060102150405", text)
	return secondsForm.MatchString(text) && err == nil && at.Year() > 0
}

func isModelMarks(text string) bool {
	for i, c := range []byte(text) {
		if strings.IndexByte(allMarks, c) < 0 || strings.IndexByte(text[:i], c) >= 0 {
			return false
		}
	}
	return len(text) == 5
}

func isModelNumber(w modelWord, least, most int) (int, bool) {
	n := 0
	for _, c := range w.text {
		n = n*10 + int(c-'0')
	}
	return n, numberForm.MatchString(w.text) && !w.second && least <= n && n <= most
}

// modelSet puts a word into the field of its row; false: it is not such.
func modelSet(s *api.Setup, side *api.Side, name string, w modelWord) (ok bool) {
	set := func(to *string, forms ...*regexp.Regexp) bool {
		*to = w.text
		return slices.ContainsFunc(forms, func(r *regexp.Regexp) bool { return r.MatchString(w.text) })
	}
	switch name {
	case "start":
		return set(&s.Start, secondsForm) && isModelStart(w.text)
	case "version":
		return set(&s.Version, versionForm)
	case "app":
		return set(&side.App, nameForm)
	case "facility":
		return set(&side.Facility, nameForm, emptyForm)
	case "process":
		return set(&side.Process, processForm)
	case "marks":
		if ok = isModelMarks(w.text); ok {
			b := []byte(w.text)
			side.Marks = api.Marks{Field: b[0], Comp: b[1], Rep: b[2], Esc: b[3], Sub: b[4]}
		}
	case "sequence":
		side.Sequence = w.text == "on"
		ok = onOffForm.MatchString(w.text)
	case "every":
		side.Every, ok = isModelNumber(w, 1, 10000)
	case "tries":
		side.Tries, ok = isModelNumber(w, 0, 16)
	case "keep":
		side.Keep, ok = isModelNumber(w, 1, 64)
	case "compact":
		side.Compact, ok = isModelNumber(w, 1, 256)
	}
	return ok
}

var (
	headNames = []string{"start", "version"}
	mustNames = []string{"app", "facility", "process", "sequence", "every", "tries", "keep", "compact"}
)

type model struct {
	setup api.Setup
	part  string   // "" ahead of the sides, then a, then b
	stood []string // a part and a row's first word; side a and side b
}

func (m *model) has(part, name string) bool { return slices.Contains(m.stood, part+" "+name) }

func (m *model) lacks(names []string) bool {
	return slices.ContainsFunc(names, func(name string) bool { return !m.has(m.part, name) })
}

// side is what is wrong with a line that begins with side.
func (m *model) side(words []modelWord) api.Errno {
	if len(words) != 2 || words[1].text != "a" && words[1].text != "b" {
		return api.ErrLine
	}
	name, which := words[1].text, int(words[1].text[0]-'a')
	switch {
	case name == "b" && !m.has("side", "a"):
		return api.ErrLine
	case m.has("side", name):
		return api.ErrTwice
	case name == "a" && m.lacks(headNames), name == "b" && m.lacks(mustNames):
		return api.ErrMissing
	}
	m.stood = append(m.stood, "side "+name)
	m.part = name
	m.setup.Sides[which].Marks = api.Marks{Field: '|', Comp: '^', Rep: '~', Esc: '\\', Sub: '&'}
	return api.OK
}

// line is what is wrong with a line; OK: nothing is.
func (m *model) line(words []modelWord) api.Errno {
	name := words[0].text
	ofHead, ofSide := slices.Contains(headNames, name), name == "marks" || slices.Contains(mustNames, name)
	switch {
	case words[0].second:
		return api.ErrLine
	case name == "side":
		return m.side(words)
	case name == "structures":
		if m.part != "b" || len(words) > 1 {
			return api.ErrLine
		}
		if m.lacks(mustNames) {
			return api.ErrMissing
		}
		return api.OK
	case !ofHead && !ofSide, ofHead && m.part != "", ofSide && m.part == "":
		return api.ErrLine
	case m.has(m.part, name):
		return api.ErrTwice
	}
	side := &m.setup.Sides[0]
	if m.part == "b" {
		side = &m.setup.Sides[1]
	}
	if len(words) != 2 || !modelSet(&m.setup, side, name, words[1]) {
		return api.ErrLine
	}
	m.stood = append(m.stood, m.part+" "+name)
	return api.OK
}

// modelParse is what Parse must tell: the setup, or the number and the place of a refusal.
func modelParse(text string) (api.Setup, api.Errno, int) {
	if len(text) > 65536 {
		return api.Setup{}, api.ErrLong, 0
	}
	m := &model{}
	lines := strings.SplitAfter(text, "\n")
	if lines[len(lines)-1] == "" {
		lines = lines[:len(lines)-1]
	}
	for i, line := range lines {
		words, ok := modelWords(strings.TrimSuffix(line, "\n"))
		if !ok {
			return api.Setup{}, api.ErrLine, i + 1
		}
		if len(words) == 0 {
			continue
		}
		if code := m.line(words); code != api.OK {
			return api.Setup{}, code, i + 1
		}
		if words[0].text == "structures" {
			m.setup.Profile = strings.Join(lines[i+1:], "")
			var f *api.Fault
			if _, err := profile.Parse(m.setup.Profile); errors.As(err, &f) {
				return api.Setup{}, f.Code, i + 1
			}
			return m.setup, api.OK, 0
		}
	}
	return api.Setup{}, api.ErrMissing, len(lines) + 1
}

// agrees holds Parse against the model, and tells the model's number.
func agrees(t *testing.T, text string) api.Errno {
	t.Helper()
	want, code, at := modelParse(text)
	s, err := Parse(text)
	if s != want {
		t.Fatalf("Parse(%q): %+v, want %+v", text, s, want)
	}
	if code == api.OK {
		if err != nil {
			t.Fatalf("Parse(%q): %v", text, err)
		}
		return code
	}
	var f *api.Fault
	if !errors.As(err, &f) || f.Layer != "setup" || f.Code != code || f.At != at || !errors.Is(err, code) {
		t.Fatalf("Parse(%q): %v, want number %d at %d", text, err, code, at)
	}
	return code
}

func pick[T any](rnd *rand.Rand, list []T) T { return list[rnd.IntN(len(list))] }

var someProfiles = []string{
	"",
	"message ADT A01 = MSH [ PID ] end",
	"# nothing\n\n",
	"table 0001 = F M ;\nsegment PID = 3 CX R max 4 ; 8 IS O in 0001 ; end\nmessage ADT A01 = MSH PID end\n",
	"\tmessage ADT A01 = MSH end # side b\r\n",
	"\n",
}

func randomName(rnd *rand.Rand) string {
	b := make([]byte, pick(rnd, []int{1, 2, 5, 19, 20}))
	for i := range b {
		b[i] = "0189ABYZabyz_.-"[rnd.IntN(15)]
	}
	return string(b)
}

func randomMarks(rnd *rand.Rand) api.Marks {
	p := rnd.Perm(len(allMarks))
	at := func(i int) byte { return allMarks[p[i]] }
	return api.Marks{Field: at(0), Comp: at(1), Rep: at(2), Esc: at(3), Sub: at(4)}
}

func randomSide(rnd *rand.Rand) api.Side {
	side := api.Side{
		App: randomName(rnd), Marks: randomMarks(rnd), Process: pick(rnd, []string{"P", "D", "T"}), Sequence: rnd.IntN(2) == 0,
		Every: pick(rnd, []int{1, 2, 10, 9999, 10000}), Tries: rnd.IntN(17), Keep: 1 + rnd.IntN(64), Compact: 1 + rnd.IntN(256),
	}
	if rnd.IntN(2) == 0 {
		side.Facility = randomName(rnd)
	}
	return side
}

// randomSetup is a setup that is right.
func randomSetup(rnd *rand.Rand) api.Setup {
	return api.Setup{
		Start:   pick(rnd, []string{"20260105000000", "00010101000000", "99991231235959", "20240229120000"}),
		Version: pick(rnd, []string{"2.1", "2.2", "2.3", "2.3.1", "2.4", "2.5", "2.5.1"}),
		Sides:   [2]api.Side{randomSide(rnd), randomSide(rnd)},
		Profile: pick(rnd, someProfiles),
	}
}
