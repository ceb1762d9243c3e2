package inbox

import (
	"bytes"
	"errors"
	"math"
	"regexp"
	"slices"
	"strconv"
	"testing"

	"courier/api"
)

const (
	top     = 2147483647
	latest  = 1099511627776
	mostIn  = 32
	mostOld = 64
)

// name gives a control id of its own for each number.
func name(i int) string { return "A" + strconv.Itoa(i) }

// open is an entry without a verdict, with something in each field that it may have.
func open(i int) api.InEntry {
	n := strconv.Itoa(i)
	return api.InEntry{Control: name(i), Text: []byte("text " + n), Number: i, Tick: i, Commit: []byte("commit " + n)}
}

func decided(i int) api.InEntry {
	e := open(i)
	e.Code, e.Answer = verdicts()[i%3], []byte("answer "+strconv.Itoa(i))
	return e
}

// entries makes one entry for each letter: o is an open one, d a decided one.
func entries(letters string) []api.InEntry {
	var list []api.InEntry
	for i, c := range letters {
		if c == 'o' {
			list = append(list, open(i))
		} else {
			list = append(list, decided(i))
		}
	}
	return list
}

func verdicts() []string { return []string{"AA", "AE", "AR"} }

// wrongCodes are none of a verdict, and not empty.
func wrongCodes() []string {
	return []string{"CA", "CE", "CR", "A", "AAA", "aa", "Aa", "AB", "AS", "A ", " AA", "AA ", "AL", "NE", "EA", "RA", "0", "\x00", "AA\x00", "\xff\xfe"}
}

// someIDs are control ids of all lengths around the bound, and every byte in several places of them.
func someIDs() []string {
	list := []string{"\u00e9", "\u4e16", "a b", "A1\n", "\nA1", "A1\x00", "..", "--", "-1", "0", string(make([]byte, 1<<16))}
	for n := range 40 {
		list = append(list, string(bytes.Repeat([]byte("x"), n)))
	}
	long := string(bytes.Repeat([]byte("q"), 17))
	for c := range 256 {
		b := string([]byte{byte(c)})
		list = append(list, b, "Q"+b, b+"Q", "Q"+b+"Q", long+b, b+long, long+"q"+b)
	}
	return list
}

var names = regexp.MustCompile(`\A[0-9A-Za-z.-]{1,18}\z`)

// allowed says of an entry what the chapter's paragraph does.
func allowed(e api.InEntry) bool {
	return names.MatchString(e.Control) &&
		len(e.Text) >= 1 && len(e.Text) <= 8192 &&
		e.Number >= 0 && e.Number <= top &&
		e.Tick >= 0 && e.Tick <= latest &&
		len(e.Commit) <= 2048 && len(e.Answer) <= 2048 &&
		(e.Code == "" && len(e.Answer) == 0 || slices.Contains(verdicts(), e.Code))
}

// refused: the error is this layer's Fault with that number, at that place, and nothing under it.
func refused(t *testing.T, what string, err error, code api.Errno, at int) {
	t.Helper()
	var f *api.Fault
	if !errors.As(err, &f) {
		t.Fatalf("%s: %v, want number %d at %d", what, err, code, at)
	}
	if *f != (api.Fault{Layer: "inbox", At: at, Code: code}) || !errors.Is(err, code) {
		t.Fatalf("%s: %+v, want number %d at %d", what, *f, code, at)
	}
}

// agrees: the error is the one with that number, at 0; OK: there is none.
func agrees(t *testing.T, what string, err error, code api.Errno) {
	t.Helper()
	if code != api.OK {
		refused(t, what, err, code, 0)
	} else if err != nil {
		t.Fatalf("%s: %v", what, err)
	}
}

func isSame(a, b api.InEntry) bool {
	return a.Control == b.Control && bytes.Equal(a.Text, b.Text) && a.Number == b.Number && a.Tick == b.Tick &&
		bytes.Equal(a.Commit, b.Commit) && a.Code == b.Code && bytes.Equal(a.Answer, b.Answer)
}

func isNone(e api.InEntry) bool { return isSame(e, api.InEntry{}) }

func load(t *testing.T, keep, room int, list []api.InEntry) *Box {
	t.Helper()
	b, err := Load(keep, room, list)
	if b == nil || err != nil {
		t.Fatalf("Load: %v, %v", b, err)
	}
	return b
}

// model is the chapter's inbox without forgetting: all that was ever accepted. Who is kept is said by the definition.
type model struct {
	keep, room int
	ever       []api.InEntry
}

// both gives an inbox and its model.
func both(t *testing.T, keep, room int, list []api.InEntry) (*Box, *model) {
	t.Helper()
	b, m := load(t, keep, room, list), &model{keep, room, deep(list)}
	stands(t, "made", b, m)
	return b, m
}

// deep copies entries with their texts.
func deep(list []api.InEntry) []api.InEntry {
	list = slices.Clone(list)
	for i, e := range list {
		list[i].Text, list[i].Commit, list[i].Answer = slices.Clone(e.Text), slices.Clone(e.Commit), slices.Clone(e.Answer)
	}
	return list
}

// isKept: the entry is open, or at most keep decided ones stand behind it.
func (m *model) isKept(i int) bool {
	behind := 0
	for _, e := range m.ever[i+1:] {
		if e.Code != "" {
			behind++
		}
	}
	return m.ever[i].Code == "" || behind <= m.keep
}

func (m *model) kept() []api.InEntry {
	var list []api.InEntry
	for i, e := range m.ever {
		if m.isKept(i) {
			list = append(list, e)
		}
	}
	return list
}

// place is that of a kept entry among all; -1: there is none.
func (m *model) place(control string) int {
	for i, e := range m.ever {
		if e.Control == control && m.isKept(i) {
			return i
		}
	}
	return -1
}

func (m *model) open() []string {
	var ids []string
	for _, e := range m.ever {
		if e.Code == "" {
			ids = append(ids, e.Control)
		}
	}
	return ids
}

func (m *model) accept(e api.InEntry) api.Errno {
	if !allowed(e) || e.Code != "" {
		return api.ErrEntry
	}
	if k := m.kept(); len(k) > 0 && e.Tick < k[len(k)-1].Tick {
		return api.ErrEntry
	}
	if m.place(e.Control) >= 0 {
		return api.ErrTwice
	}
	if len(m.open()) >= m.room {
		return api.ErrFull
	}
	m.ever = append(m.ever, deep([]api.InEntry{e})...)
	return api.OK
}

// decide answers those that were kept ahead of the verdict and are not any more.
func (m *model) decide(control, code string, answer []byte) ([]string, api.Errno) {
	if !slices.Contains(verdicts(), code) {
		return nil, api.ErrVerdict
	}
	if len(answer) > 2048 {
		return nil, api.ErrLong
	}
	at := m.place(control)
	if at < 0 {
		return nil, api.ErrUnknown
	}
	if m.ever[at].Code != "" {
		return nil, api.ErrTwice
	}
	before := m.kept()
	m.ever[at].Code, m.ever[at].Answer = code, slices.Clone(answer)
	var gone []string
	for _, e := range before {
		if m.place(e.Control) < 0 {
			gone = append(gone, e.Control)
		}
	}
	return gone, api.OK
}

// stands: all that an inbox tells is as the model says, and telling changes nothing.
func stands(t *testing.T, what string, b *Box, m *model) {
	t.Helper()
	for range 2 {
		tells(t, what, b, m)
	}
}

func tells(t *testing.T, what string, b *Box, m *model) {
	t.Helper()
	want := m.kept()
	if l := b.List(); !slices.EqualFunc(l, want, isSame) {
		t.Fatalf("%s: List() = %v, want %v", what, l, want)
	}
	if l := b.Open(); !slices.Equal(l, m.open()) {
		t.Fatalf("%s: Open() = %v, want %v", what, l, m.open())
	}
	if n, open := b.Count(); n != len(want) || open != len(m.open()) {
		t.Fatalf("%s: Count() = %d, %d; want %d, %d", what, n, open, len(want), len(m.open()))
	}
	for _, e := range m.ever {
		got, ok := b.Find(e.Control)
		i := m.place(e.Control)
		if ok != (i >= 0) || !ok && !isNone(got) || ok && !isSame(got, m.ever[i]) {
			t.Fatalf("%s: Find(%q) = %v, %v; it is kept at %d", what, e.Control, got, ok, i)
		}
	}
	last, ok := b.Last()
	if len(want) == 0 {
		want = []api.InEntry{{}}
	}
	if ok != (len(m.ever) > 0) || !isSame(last, want[len(want)-1]) {
		t.Fatalf("%s: Last() = %v, %v", what, last, ok)
	}
}

// The calls of an inbox and of its model, held against each other with all that the inbox tells then.

func accepts(t *testing.T, b *Box, m *model, e api.InEntry) {
	t.Helper()
	what := "Accept " + strconv.Quote(e.Control)
	agrees(t, what, b.Accept(e), m.accept(e))
	stands(t, what, b, m)
}

func decides(t *testing.T, b *Box, m *model, control, code string, answer []byte) []string {
	t.Helper()
	what := "Decide " + strconv.Quote(control) + " " + strconv.Quote(code)
	got, err := b.Decide(control, code, answer)
	want, no := m.decide(control, code, answer)
	agrees(t, what, err, no)
	if !slices.Equal(got, want) {
		t.Fatalf("%s: %v goes, want %v", what, got, want)
	}
	stands(t, what, b, m)
	return got
}

// wentBy: a verdict is taken, and by it just these go.
func wentBy(t *testing.T, b *Box, m *model, control string, gone ...string) {
	t.Helper()
	if l := decides(t, b, m, control, "AA", []byte("y")); !slices.Equal(l, gone) {
		t.Fatalf("by the verdict on %s %v goes, want %v", control, l, gone)
	}
}

// outside are numbers below 0 and above a bound.
func outside(most int) []int {
	return []int{math.MinInt, -1 << 40, -1 << 32, -most - 1, -most, -7, -1, most + 1, most + 2, 2*most + 1, 1 << 62, math.MaxInt}
}
