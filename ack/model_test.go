package ack

import (
	"errors"
	"math/rand"
	"regexp"
	"slices"
	"strconv"
	"strings"
	"testing"

	"courier/api"
	"courier/esc"
	"courier/stamp"
	"courier/tree"
)

// The model judges by patterns, writes texts by putting strings together, and reads by splitting a message's one form.

var common = api.Marks{Field: '|', Comp: '^', Rep: '~', Esc: '\\', Sub: '&'}

// manyMarks are right marks under which letters of stamps, versions, control ids and HDs must be escaped, one or several at a time.
var manyMarks = []api.Marks{
	common,
	{Field: '.', Comp: '-', Rep: '_', Esc: '+', Sub: '"'},
	{Field: '_', Comp: '.', Rep: '-', Esc: '\\', Sub: '+'},
	{Field: '"', Comp: '^', Rep: '.', Esc: '-', Sub: '_'},
	{Field: '#', Comp: '$', Rep: '%', Esc: '!', Sub: '?'},
	{Field: '|', Comp: '^', Rep: '+', Esc: '.', Sub: '-'},
}

// plainPart is an Ack without its list, which can be compared whole.
type plainPart struct {
	marks                         api.Marks
	from, fromPlace, to, toPlace  [3]string
	stamp, event, control         string
	process, version, code, about string
	enhanced                      bool
	expect                        int
}

func plainOf(a api.Ack) plainPart {
	return plainPart{
		marks: a.Marks, from: a.From, fromPlace: a.FromPlace, to: a.To, toPlace: a.ToPlace,
		stamp: a.Stamp, event: a.Event, control: a.Control, process: a.Process, version: a.Version,
		code: a.Code, about: a.For, enhanced: a.Enhanced, expect: a.Expect,
	}
}

func same(a, b api.Ack) bool { return plainOf(a) == plainOf(b) && slices.Equal(a.Errors, b.Errors) }

// example is the right Ack of the chapter's examples.
func example() api.Ack {
	return api.Ack{
		Marks: common, From: [3]string{"LAB"}, To: [3]string{"ADT"}, Stamp: "20240229120000", Event: "A01", Control: "C7",
		Process: "P", Version: "2.5.1", Enhanced: true, Code: "CE", For: "7", Expect: 12,
		Errors: []api.Finding{{Code: 207, Seg: "MSH", Occur: 1, Field: 13, Rep: 1}},
	}
}

// refused fails the test where an error is none of layer ack with that number and place and nothing under it.
func refused(t *testing.T, what string, err error, code api.Errno, at int) {
	t.Helper()
	f, ok := err.(*api.Fault)
	if !ok || f == nil || f.Layer != "ack" || f.Code != code || f.At != at || f.Under != nil || !errors.Is(err, code) {
		t.Errorf("%s: %v, want number %d at %d", what, err, code, at)
	}
}

var (
	codeWord    = regexp.MustCompile(`^[0-9A-Za-z_.\-]{1,20}$`)
	ownWord     = regexp.MustCompile(`^[0-9A-Za-z.\-]{1,20}$`)
	forWord     = regexp.MustCompile(`^[0-9A-Za-z.\-]{1,18}$`)
	eventWord   = regexp.MustCompile(`^(A01|A02|A03|A04|A08|A11|A12|A13|O01|O21|P01|Q01|R01)$`)
	processWord = regexp.MustCompile(`^[DPT]$`)
	versionWord = regexp.MustCompile(`^2\.(1|2|3|3\.1|4|5|5\.1)$`)
	answerWord  = regexp.MustCompile(`^[AC][AER]$`)
	errorWord   = regexp.MustCompile(`^(10[0-3]|20[0-7])$`)
	nameWord    = regexp.MustCompile(`^[A-Z][A-Z0-9][A-Z0-9]$`)
	numberWord  = regexp.MustCompile(`^(0|[1-9][0-9]{0,9})$`)
)

func modelHD(v [3]string) bool {
	for _, text := range v {
		if text == "\"\"" {
			return false
		}
	}
	if v[1] != "" && v[2] == "" {
		return false
	}
	return (v[0] == "" || codeWord.MatchString(v[0])) && len(v[1]) <= 64 && (v[2] == "" || codeWord.MatchString(v[2]))
}

func modelStamp(text string) bool {
	s, err := stamp.Parse(text)
	return err == nil && (s.Level == 6 || s.Level == 7)
}

func modelFinding(f api.Finding) bool {
	n := []int{f.Occur, f.Field, f.Rep, f.Comp, f.Sub}
	for i, most := range []int{128, 66, 32, 32, 16} {
		if n[i] < 0 || n[i] > most || i > 0 && n[i-1] == 0 && n[i] != 0 {
			return false
		}
	}
	if !errorWord.MatchString(strconv.Itoa(f.Code)) {
		return false
	}
	if f.Seg == "" {
		return f.Occur == 0
	}
	return nameWord.MatchString(f.Seg) && f.Occur != 0
}

// modelRight is the number of the first field that is not right, 0 for none.
func modelRight(a api.Ack) int {
	findings := len(a.Errors) <= 8
	for _, f := range a.Errors {
		findings = findings && modelFinding(f) && a.Code != "AA" && a.Code != "CA"
	}
	for i, ok := range []bool{
		esc.Valid(a.Marks) == nil,
		modelHD(a.From) && a.From[0] != "",
		modelHD(a.FromPlace),
		modelHD(a.To),
		modelHD(a.ToPlace),
		modelStamp(a.Stamp),
		a.Event == "" || eventWord.MatchString(a.Event),
		ownWord.MatchString(a.Control),
		processWord.MatchString(a.Process),
		versionWord.MatchString(a.Version),
		true,
		answerWord.MatchString(a.Code),
		forWord.MatchString(a.For),
		a.Expect >= -1 && a.Expect <= 1<<31-1,
		findings,
	} {
		if !ok {
			return i + 1
		}
	}
	return 0
}

// modelText is the text of a right Ack.
func modelText(a api.Ack) string {
	k := a.Marks
	in := func(text string) string {
		wire, err := esc.Escape(k, text)
		if err != nil {
			panic(err)
		}
		return wire
	}
	line := func(mark byte, parts ...string) string {
		return strings.TrimRight(strings.Join(parts, string(mark)), string(mark))
	}
	hd := func(v [3]string) string { return line(k.Comp, in(v[0]), in(v[1]), in(v[2])) }
	kind, condition, expect := "ACK", "", ""
	if a.Event != "" {
		kind = line(k.Comp, "ACK", a.Event, "ACK")
	}
	if a.Enhanced {
		condition = "NE"
	}
	if a.Expect >= 0 {
		expect = strconv.Itoa(a.Expect)
	}
	text := "MSH" + string([]byte{k.Field, k.Comp, k.Rep, k.Esc, k.Sub, k.Field}) +
		line(k.Field, hd(a.From), hd(a.FromPlace), hd(a.To), hd(a.ToPlace), in(a.Stamp), "", kind, in(a.Control), a.Process, in(a.Version), "", "", condition, condition) + "\r" +
		line(k.Field, "MSA", a.Code, in(a.For), "", expect) + "\r"
	for _, f := range a.Errors {
		place := f.Seg
		for _, n := range []int{f.Occur, f.Field, f.Rep, f.Comp, f.Sub} {
			if n != 0 {
				place += string(k.Comp) + strconv.Itoa(n)
			}
		}
		text += line(k.Field, "ERR", "", place, line(k.Comp, strconv.Itoa(f.Code), "", "HL70357"), "E") + "\r"
	}
	return text
}

// wired is a segment on the wire, in one form: its fields by number.
type wired struct {
	marks  api.Marks
	fields map[int]string
}

func modelSegments(m api.Message, name string) []wired {
	text, err := tree.Print(m)
	if err != nil {
		panic(err)
	}
	var found []wired
	for _, line := range strings.Split(strings.TrimSuffix(string(text), "\r"), "\r") {
		if line[:3] != name {
			continue
		}
		number, rest := 1, line[3:]
		if name == "MSH" {
			number, rest = 3, line[8:]
		}
		w := wired{m.Marks, map[int]string{}}
		for i, field := range strings.Split(rest, string(m.Marks.Field)) {
			w.fields[number-1+i] = field
		}
		found = append(found, w)
	}
	return found
}

// plain is a text on the wire as plain text; with a mark in it, it is none.
func (w wired) plain(wire string) (string, bool) {
	text, err := esc.Unescape(w.marks, wire)
	return text, err == nil
}

func (w wired) right(field int, is func(string) bool) string {
	if text, ok := w.plain(w.fields[field]); ok && is(text) {
		return text
	}
	return ""
}

// comp is a component of a field's first repetition, on the wire.
func (w wired) comp(field, number int) string {
	first, _, _ := strings.Cut(w.fields[field], string(w.marks.Rep))
	if comps := strings.Split(first, string(w.marks.Comp)); number <= len(comps) {
		return comps[number-1]
	}
	return ""
}

// parts are a field's components as plain texts, if it is one repetition of at most so many with at most one subcomponent each.
func (w wired) parts(field, most int) ([]string, bool) {
	var parts []string
	for _, comp := range strings.Split(w.fields[field], string(w.marks.Comp)) {
		text, ok := w.plain(comp)
		if !ok {
			return nil, false
		}
		parts = append(parts, text)
	}
	ok := len(parts) <= most
	return append(parts, make([]string, most)...)[:most], ok
}

func (w wired) hd(field int) [3]string {
	if parts, ok := w.parts(field, 3); ok && modelHD([3]string(parts)) {
		return [3]string(parts)
	}
	return [3]string{}
}

func (w wired) event() string {
	if text, ok := w.plain(w.comp(9, 2)); ok && eventWord.MatchString(text) {
		return text
	}
	return ""
}

func modelNumber(text string) (int, bool) {
	n, err := strconv.ParseInt(text, 10, 64)
	return int(n), err == nil && numberWord.MatchString(text) && n <= 2147483647
}

func (w wired) finding() (api.Finding, bool) {
	text, _ := w.plain(w.comp(3, 1))
	parts, ok := w.parts(2, 6)
	if !ok || !errorWord.MatchString(text) {
		return api.Finding{}, false
	}
	var n [6]int
	for i, part := range parts {
		if i > 0 && part != "" {
			number, ok := modelNumber(part)
			if !ok {
				return api.Finding{}, false
			}
			n[i] = number
		}
	}
	code, _ := strconv.Atoi(text)
	f := api.Finding{Code: code, Seg: parts[0], Occur: n[1], Field: n[2], Rep: n[3], Comp: n[4], Sub: n[5]}
	return f, modelFinding(f)
}

// modelRead reads a valid message that Print takes: the Ack, or the place of ErrAck; 0 for ErrUnknown, -1 for none.
func modelRead(m api.Message) (api.Ack, int) {
	answers := modelSegments(m, "MSA")
	if len(answers) == 0 {
		return api.Ack{}, 0
	}
	a := api.Ack{Marks: m.Marks, Expect: -1}
	first := answers[0]
	if a.Code = first.right(1, answerWord.MatchString); a.Code == "" {
		return api.Ack{}, 12
	}
	if a.For = first.right(2, forWord.MatchString); a.For == "" {
		return api.Ack{}, 13
	}
	text, ok := first.plain(first.fields[4])
	n, isNumber := modelNumber(text)
	if !ok || text != "" && !isNumber {
		return api.Ack{}, 14
	}
	if text != "" {
		a.Expect = n
	}
	h := modelSegments(m, "MSH")[0]
	a.From, a.FromPlace, a.To, a.ToPlace = h.hd(3), h.hd(4), h.hd(5), h.hd(6)
	a.Stamp, a.Event = h.right(7, modelStamp), h.event()
	a.Control, a.Process = h.right(10, ownWord.MatchString), h.right(11, processWord.MatchString)
	a.Version = h.right(12, versionWord.MatchString)
	a.Enhanced = h.fields[15] != "" || h.fields[16] != ""
	if a.Code == "AA" || a.Code == "CA" {
		return a, -1
	}
	for _, w := range modelSegments(m, "ERR") {
		if f, ok := w.finding(); ok && len(a.Errors) < 8 {
			a.Errors = append(a.Errors, f)
		}
	}
	return a, -1
}

// modelAnswer answers a head that is valid as an MSH.
func modelAnswer(m api.Marks, s api.Seg) api.Ack {
	h := modelSegments(api.Message{Marks: m, Segs: []api.Seg{{Name: "MSH", Fields: s.Fields}}}, "MSH")[0]
	return api.Ack{
		Marks: m, To: h.hd(3), ToPlace: h.hd(4), Event: h.event(),
		Process: h.right(11, processWord.MatchString), For: h.right(10, forWord.MatchString), Expect: -1,
	}
}

func pick[E any](r *rand.Rand, list ...E) E { return list[r.Intn(len(list))] }

func randomText(r *rand.Rand, letters string, most int) string {
	text := make([]byte, 1+r.Intn(most))
	for i := range text {
		text[i] = letters[r.Intn(len(letters))]
	}
	return string(text)
}

func randomHD(r *rand.Rand) [3]string {
	const word = "abZ09_.-"
	v := [3]string{randomText(r, word, 20)}
	if r.Intn(2) == 0 {
		v[2] = randomText(r, word, 20)
		if r.Intn(3) > 0 {
			v[1] = randomText(r, "aZ9 |^~\\&_.-+\"#$%!?\r\n\x00\x7F\x80\xFF", 64)
		}
		if v[1] == "\"\"" {
			v[1] = "\""
		}
	}
	return v
}

func randomFinding(r *rand.Rand) api.Finding {
	f := api.Finding{Code: pick(r, 100, 101, 102, 103, 200, 201, 204, 206, 207)}
	deep := r.Intn(7)
	numbers := []*int{&f.Occur, &f.Field, &f.Rep, &f.Comp, &f.Sub}
	if deep > 0 {
		f.Seg, f.Occur = pick(r, "MSH", "PID", "Z01", "A00"), 1
	}
	for i, most := range []int{128, 66, 32, 32, 16} {
		if i < deep-1 {
			*numbers[i] = pick(r, 1, most, 1+r.Intn(most))
		}
	}
	return f
}

// randomAck is a right one.
func randomAck(r *rand.Rand) api.Ack {
	a := api.Ack{
		Marks: pick(r, manyMarks...), From: randomHD(r),
		Stamp: pick(r, "20240229120000", "20240229120000+0130", "00010101000000.1", "99991231235959.9999-1200", "20260101000000.0001"),
		Event: pick(r, "", "A01", "R01", "Q01"), Control: randomText(r, "aZ09.-", 20), Process: pick(r, "D", "P", "T"),
		Version: pick(r, "2.1", "2.3.1", "2.5.1"), Enhanced: r.Intn(2) == 0, Code: pick(r, "AA", "AE", "AR", "CA", "CE", "CR"),
		For: randomText(r, "aZ09.-", 18), Expect: pick(r, -1, 0, 1, 12, api.MaxNumber, r.Intn(api.MaxNumber)),
	}
	for _, v := range []*[3]string{&a.FromPlace, &a.To, &a.ToPlace} {
		if r.Intn(3) > 0 {
			*v = randomHD(r)
			v[0] = pick(r, v[0], "")
		}
	}
	if a.Code != "AA" && a.Code != "CA" {
		for range r.Intn(9) {
			a.Errors = append(a.Errors, randomFinding(r))
		}
	}
	return a
}

// message reads a text of lines under the common marks, the MSH with what stands behind its marks.
func message(t *testing.T, lines ...string) api.Message {
	t.Helper()
	m, err := tree.Parse([]byte("MSH|^~\\&" + strings.Join(lines, "\r")))
	if err != nil {
		t.Fatalf("%q: %v", lines, err)
	}
	return m
}

func cloneMessage(m api.Message) api.Message {
	c := api.Message{Marks: m.Marks}
	for _, s := range m.Segs {
		c.Segs = append(c.Segs, cloneSeg(s))
	}
	return c
}

func cloneSeg(s api.Seg) api.Seg {
	c := api.Seg{Name: s.Name}
	for _, f := range s.Fields {
		var field api.Field
		for _, r := range f.Reps {
			var rep api.Rep
			for _, x := range r.Comps {
				rep.Comps = append(rep.Comps, api.Comp{Subs: slices.Clone(x.Subs)})
			}
			field.Reps = append(field.Reps, rep)
		}
		c.Fields = append(c.Fields, field)
	}
	return c
}

// sameSeg compares lists as they stand, empty ends too.
func sameSeg(a, b api.Seg) bool {
	return a.Name == b.Name && slices.EqualFunc(a.Fields, b.Fields, func(a, b api.Field) bool {
		return slices.EqualFunc(a.Reps, b.Reps, func(a, b api.Rep) bool {
			return slices.EqualFunc(a.Comps, b.Comps, func(a, b api.Comp) bool { return slices.Equal(a.Subs, b.Subs) })
		})
	})
}

func sameMessage(a, b api.Message) bool {
	return a.Marks == b.Marks && slices.EqualFunc(a.Segs, b.Segs, sameSeg)
}
