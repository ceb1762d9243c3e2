package outbox

import (
	"errors"
	"math"
	"reflect"
	"regexp"
	"slices"
	"strconv"
	"strings"
	"testing"

	"courier/api"
	"courier/decide"
)

const (
	top  = 2147483647
	most = 32
)

var always = enhanced(1, 1)

func enhanced(accept, app int) api.Conditions {
	return api.Conditions{Enhanced: true, Accept: accept, App: app}
}

// rightConditions are all seventeen.
func rightConditions() []api.Conditions {
	list := []api.Conditions{{}}
	for accept := range 4 {
		for app := range 4 {
			list = append(list, enhanced(accept, app))
		}
	}
	return list
}

func wrongConditions() []api.Conditions {
	numbers := []int{math.MinInt, -1, 0, 1, 2, 3, 4, math.MaxInt}
	var list []api.Conditions
	for _, accept := range numbers {
		for _, app := range numbers {
			for _, c := range []api.Conditions{{Accept: accept, App: app}, enhanced(accept, app)} {
				if !slices.Contains(rightConditions(), c) {
					list = append(list, c)
				}
			}
		}
	}
	return list
}

// commits: a CA may come of these conditions.
func commits(c api.Conditions) bool { return c.Enhanced && c.Accept%2 == 1 }

func allCodes() []string {
	return []string{"CA", "CE", "CR", "AA", "AE", "AR", "", "C", "ca", "CC", "CA ", " AE", "AL", "\x00\xff"}
}

// wrongNumbers lie outside of 0 to MaxNumber.
func wrongNumbers() []int {
	return []int{math.MinInt, -top - 1, -top, -7, -1, top + 1, top + 2, 1 << 32, 1<<32 + 7, math.MaxInt}
}

func kinds() []bool { return []bool{false, true} }

// name gives a control id of its own for each number.
func name(i int) string { return "A" + strconv.Itoa(i) }

func out(i int) api.Out {
	return api.Out{Control: name(i), Text: []byte("text " + strconv.Itoa(i)), Cond: always}
}

func outs(n int) []api.Out {
	list := make([]api.Out, n)
	for i := range list {
		list[i] = out(i)
	}
	return list
}

// refused: the error is this layer's Fault with that number, at that place, and nothing under it.
func refused(t *testing.T, what string, err error, code api.Errno, at int) {
	t.Helper()
	var f *api.Fault
	if !errors.As(err, &f) {
		t.Fatalf("%s: %v, want number %d at %d", what, err, code, at)
	}
	if *f != (api.Fault{Layer: "outbox", At: at, Code: code}) || !errors.Is(err, code) {
		t.Fatalf("%s: %+v, want number %d at %d", what, *f, code, at)
	}
}

// agrees: the error is the one with that number, at 0; OK: there is none.
func agrees(t *testing.T, what string, err error, code api.Errno) {
	t.Helper()
	if code != api.OK {
		refused(t, what, err, code, 0)
	} else if err != nil {
		t.Fatalf("%s: %v", what, err)
	}
}

func load(t *testing.T, list []api.Out, sequenced bool, tries int) *Box {
	t.Helper()
	b, err := Load(list, sequenced, tries)
	if b == nil || err != nil {
		t.Fatalf("Load: %v, %v", b, err)
	}
	return b
}

// does writes deeds as words, so that a test tells them at a glance.
func does(deeds []api.Deed) string {
	words := []string{"?", "Send", "Timer", "Note", "Final", "Number", "Strange"}
	var l []string
	for _, d := range deeds {
		l = append(l, strings.TrimSpace(d.Control+" "+words[d.Kind]+" "+d.Code))
	}
	return strings.Join(l, ", ")
}

func did(t *testing.T, what string, deeds []api.Deed, err error, want string) {
	t.Helper()
	if err != nil || does(deeds) != want {
		t.Fatalf("%s: %q, %v; want %q", what, does(deeds), err, want)
	}
}

// model is the chapter's box as plain tables: what is durable, and the wants of those under way.
type model struct {
	sequenced bool
	tries     int
	outs      []api.Out
	wants     map[string]api.Want
}

func newModel(list []api.Out, sequenced bool, tries int) *model {
	return &model{sequenced, tries, slices.Clone(list), map[string]api.Want{}}
}

// both gives a box and its model.
func both(t *testing.T, list []api.Out, sequenced bool, tries int) (*Box, *model) {
	t.Helper()
	return load(t, list, sequenced, tries), newModel(list, sequenced, tries)
}

func (m *model) place(control string) int {
	return slices.IndexFunc(m.outs, func(o api.Out) bool { return o.Control == control })
}

func (m *model) sent() []api.Sent {
	var l []api.Sent
	for _, o := range m.outs {
		w, under := m.wants[o.Control]
		l = append(l, api.Sent{Out: o, Want: w, Under: under})
	}
	return l
}

var names = regexp.MustCompile(`\A[0-9A-Za-z.-]{1,18}\z`)

func isName(control string) bool { return names.MatchString(control) }

func (m *model) add(control string, text []byte, c api.Conditions) api.Errno {
	if len(m.outs) >= most {
		return api.ErrFull
	}
	if !isName(control) {
		return api.ErrControl
	}
	if m.place(control) >= 0 {
		return api.ErrTwice
	}
	if len(text) < 1 || len(text) > 8192 {
		return api.ErrLong
	}
	if !slices.Contains(rightConditions(), c) {
		return api.ErrCond
	}
	m.outs = append(m.outs, api.Out{Control: control, Text: slices.Clone(text), Cond: c})
	return api.OK
}

// next is the place of the message that is to go out next; -1: there is none.
func (m *model) next() int {
	waits := func(o api.Out) bool { _, under := m.wants[o.Control]; return !under }
	if m.sequenced {
		if len(m.outs) > 0 && waits(m.outs[0]) {
			return 0
		}
		return -1
	}
	return slices.IndexFunc(m.outs, waits)
}

func (m *model) give(n int) api.Errno {
	if !m.sequenced || m.next() != 0 {
		return api.ErrState
	}
	if n < 1 || n > top {
		return api.ErrGiven
	}
	m.outs[0].Number = n
	return api.OK
}

// act does acts to the message at a place.
func (m *model) act(i int, w api.Want, acts []api.Act, expect int) []api.Deed {
	control := m.outs[i].Control
	m.wants[control] = w
	var deeds []api.Deed
	for _, a := range acts {
		deeds = append(deeds, api.Deed{Control: control, Act: a})
		switch a.Kind {
		case api.ActNote:
			m.outs[i].Noted = true
		case api.ActNumber:
			m.outs[i].Number = expect
		case api.ActFinal:
			delete(m.wants, control)
			m.outs = slices.Concat(m.outs[:i], m.outs[i+1:])
		}
	}
	return deeds
}

func (m *model) goOut() ([]api.Deed, api.Errno) {
	i := m.next()
	if i < 0 || m.sequenced && m.outs[i].Number == 0 {
		return nil, api.ErrState
	}
	w, acts, _ := decide.Start(m.outs[i].Cond, m.tries, m.outs[i].Noted)
	return m.act(i, w, acts, 0), api.OK
}

func (m *model) under(control string) (int, api.Errno) {
	i := m.place(control)
	if i < 0 {
		return 0, api.ErrUnknown
	}
	if _, under := m.wants[control]; !under {
		return 0, api.ErrState
	}
	return i, api.OK
}

func (m *model) heard(control, code string, expect int) ([]api.Deed, api.Errno) {
	i, no := m.under(control)
	if no != api.OK {
		return nil, no
	}
	if expect < 0 || expect > top {
		return nil, api.ErrGiven
	}
	o, w := m.outs[i], m.wants[control]
	if m.sequenced && (code == "CE" || code == "AE") && expect >= 1 && expect == o.Number {
		return []api.Deed{{Control: control, Act: api.Act{Kind: api.ActStrange}}}, api.OK
	}
	w, acts, _ := decide.Heard(o.Cond, w, code, m.sequenced && expect >= 1)
	return m.act(i, w, acts, expect), api.OK
}

func (m *model) due(control string) ([]api.Deed, api.Errno) {
	i, no := m.under(control)
	if no != api.OK {
		return nil, no
	}
	w, acts, _ := decide.Due(m.outs[i].Cond, m.wants[control])
	return m.act(i, w, acts, 0), api.OK
}

// stands: all that a box tells is as the model says, and telling changes nothing.
func stands(t *testing.T, what string, b *Box, m *model) {
	t.Helper()
	for range 2 {
		tells(t, what, b, m)
	}
}

func tells(t *testing.T, what string, b *Box, m *model) {
	t.Helper()
	want := m.sent()
	if n := b.Len(); n != len(want) {
		t.Fatalf("%s: Len() = %d, want %d", what, n, len(want))
	}
	if l := b.List(); len(l) != len(want) || len(l) > 0 && !reflect.DeepEqual(l, want) {
		t.Fatalf("%s: List() = %v, want %v", what, l, want)
	}
	for _, s := range want {
		if got, err := b.Get(s.Control); err != nil || !reflect.DeepEqual(got, s) {
			t.Fatalf("%s: Get(%q) = %v, %v; want %v", what, s.Control, got, err, s)
		}
	}
	o, ok := b.Next()
	if i := m.next(); i >= 0 {
		if !ok || !reflect.DeepEqual(o, m.outs[i]) {
			t.Fatalf("%s: Next() = %v, %v; want %v", what, o, ok, m.outs[i])
		}
	} else if ok || !reflect.DeepEqual(o, api.Out{}) {
		t.Fatalf("%s: Next() = %v, %v; want none", what, o, ok)
	}
}

// The calls of a box and of its model, held against each other with all that the box tells then.

func adds(t *testing.T, b *Box, m *model, control string, text []byte, c api.Conditions) {
	t.Helper()
	what := "Add " + strconv.Quote(control)
	agrees(t, what, b.Add(control, text, c), m.add(control, text, c))
	stands(t, what, b, m)
}

func gives(t *testing.T, b *Box, m *model, n int) {
	t.Helper()
	what := "Give " + strconv.Itoa(n)
	agrees(t, what, b.Give(n), m.give(n))
	stands(t, what, b, m)
}

func sameDeeds(t *testing.T, what string, got []api.Deed, err error, want []api.Deed, code api.Errno) {
	t.Helper()
	agrees(t, what, err, code)
	if !slices.Equal(got, want) {
		t.Fatalf("%s: %q, want %q", what, does(got), does(want))
	}
}

func goes(t *testing.T, b *Box, m *model) []api.Deed {
	t.Helper()
	got, err := b.Go()
	want, code := m.goOut()
	sameDeeds(t, "Go", got, err, want, code)
	stands(t, "Go", b, m)
	return got
}

func hears(t *testing.T, b *Box, m *model, control, answer string, expect int) []api.Deed {
	t.Helper()
	what := "Heard " + strconv.Quote(control) + " " + answer + " " + strconv.Itoa(expect)
	got, err := b.Heard(control, answer, expect)
	want, code := m.heard(control, answer, expect)
	sameDeeds(t, what, got, err, want, code)
	stands(t, what, b, m)
	return got
}

func isDue(t *testing.T, b *Box, m *model, control string) []api.Deed {
	t.Helper()
	what := "Due " + strconv.Quote(control)
	got, err := b.Due(control)
	want, code := m.due(control)
	sameDeeds(t, what, got, err, want, code)
	stands(t, what, b, m)
	return got
}
