package link

import (
	"bytes"
	"errors"
	"fmt"
	"math"
	"slices"
	"strings"
	"testing"

	"courier/api"
)

// The chapter's and api's bounds, by their numbers.
const (
	mostUnder = 256  // pieces of a side
	mostSent  = 8195 // bytes of a piece
	mostNoisy = 64   // bytes of a noise
)

// text is what was put under way: whole as it was then, come of its bytes have arrived, and it ends ahead of the byte end.
type text struct {
	whole     string
	come, end int
}

func (x text) left() string { return x.whole[x.come:x.end] }

// model is the chapter's link: texts with two marks each. Which one is broken is asked of the marks.
type model struct{ sides [2][]text }

func (m *model) half(side int) int {
	return slices.IndexFunc(m.sides[side], func(x text) bool { return x.come > 0 })
}

func (m *model) under(side int) []string {
	var list []string
	for _, x := range m.sides[side] {
		list = append(list, x.left())
	}
	return list
}

func (m *model) copied() *model {
	return &model{[2][]text{slices.Clone(m.sides[0]), slices.Clone(m.sides[1])}}
}

// call is one call of a Link that answers an error.
type call struct {
	name     string
	side     int
	index, n int
	text     string
}

func (c call) String() string {
	if len(c.text) > 40 {
		return fmt.Sprintf("%s(%d, %d bytes)", c.name, c.side, len(c.text))
	}
	return fmt.Sprintf("%s(%d, %d, %d, %q)", c.name, c.side, c.index, c.n, c.text)
}

func send(side int, text string) call  { return call{name: "Send", side: side, text: text} }
func raw(side int, text string) call   { return call{name: "Raw", side: side, text: text} }
func noise(side int, text string) call { return call{name: "Noise", side: side, text: text} }
func carry(side, index, n int) call    { return call{name: "Carry", side: side, index: index, n: n} }
func drop(side, index int) call        { return call{name: "Drop", side: side, index: index} }
func double(side, index int) call      { return call{name: "Double", side: side, index: index} }
func clip(side, index, n int) call     { return call{name: "Clip", side: side, index: index, n: n} }

// on makes the call.
func (c call) on(l *Link) ([]byte, error) {
	switch c.name {
	case "Send":
		return nil, l.Send(c.side, []byte(c.text))
	case "Raw":
		return nil, l.Raw(c.side, []byte(c.text))
	case "Noise":
		return nil, l.Noise(c.side, []byte(c.text))
	case "Carry":
		return l.Carry(c.side, c.index, c.n)
	case "Drop":
		return nil, l.Drop(c.side, c.index)
	case "Double":
		return nil, l.Double(c.side, c.index)
	}
	return nil, l.Clip(c.side, c.index, c.n)
}

// answer is what the chapter says that a call answers.
type answer struct {
	bytes string
	code  api.Errno
	at    int
}

func no(code api.Errno) answer { return answer{code: code} }

// play says what a call answers, and changes the tables by it.
func (m *model) play(c call) answer {
	if c.side != 0 && c.side != 1 {
		return no(api.ErrArg)
	}
	switch c.name {
	case "Send", "Raw":
		return m.add(c, mostSent, "")
	case "Noise":
		return m.add(c, mostNoisy, "\x0B\x0D\x1C")
	case "Double":
		return m.double(c)
	}
	return m.cut(c)
}

func (m *model) add(c call, most int, banned string) answer {
	if c.text == "" || len(c.text) > most {
		return no(api.ErrLong)
	}
	for at := range len(c.text) {
		if strings.Contains(banned, c.text[at:at+1]) {
			return answer{code: api.ErrFraming, at: at}
		}
	}
	if len(m.sides[c.side]) >= mostUnder {
		return no(api.ErrFull)
	}
	m.sides[c.side] = append(m.sides[c.side], text{c.text, 0, len(c.text)})
	return answer{}
}

func (m *model) double(c call) answer {
	if c.index < 0 || c.index >= len(m.sides[c.side]) || m.half(c.side) == c.index {
		return no(api.ErrRange)
	}
	again := m.sides[c.side][c.index].left()
	return m.add(call{side: c.side, text: again}, mostSent, "")
}

func (m *model) cut(c call) answer {
	list := m.sides[c.side]
	if c.index < 0 || c.index >= len(list) {
		return no(api.ErrRange)
	}
	x := &list[c.index]
	n, left, half := c.n, x.left(), m.half(c.side)
	switch {
	case c.name == "Drop":
		m.gone(c)
		return answer{}
	case n < 0 || n > len(left) || c.name == "Clip" && n == 0 || c.name == "Carry" && half != -1 && half != c.index:
		return no(api.ErrRange)
	case c.name == "Clip":
		x.end = x.come + n
		return answer{}
	case n == 0:
		n = len(left)
	}
	x.come += n
	if x.come == x.end {
		m.gone(c)
	}
	return answer{bytes: left[:n]}
}

func (m *model) gone(c call) {
	m.sides[c.side] = slices.Delete(slices.Clone(m.sides[c.side]), c.index, c.index+1)
}

// refused: the error is this layer's Fault with that number, at that place, and nothing under it.
func refused(t *testing.T, what any, err error, code api.Errno, at int) {
	t.Helper()
	var f *api.Fault
	if !errors.As(err, &f) {
		t.Fatalf("%v: %v, want number %d at %d", what, err, code, at)
	}
	if *f != (api.Fault{Layer: "link", At: at, Code: code}) || !errors.Is(err, code) {
		t.Fatalf("%v: %+v, want number %d at %d", what, *f, code, at)
	}
}

// answers: a call answered just this; beside an error there are no bytes.
func answers(t *testing.T, what any, got []byte, err error, want answer) {
	t.Helper()
	if want.code != api.OK {
		refused(t, what, err, want.code, want.at)
	} else if err != nil {
		t.Fatalf("%v: %v", what, err)
	}
	if string(got) != want.bytes {
		t.Fatalf("%v: %q, want %q", what, got, want.bytes)
	}
}

// tells: Half, Flight and Len of both sides are as the model says.
func tells(t *testing.T, what any, l *Link, m *model) {
	t.Helper()
	for side := range 2 {
		has(t, what, l, side, m.half(side), m.under(side)...)
	}
}

// has: a side has just this under way, and telling it changes nothing.
func has(t *testing.T, what any, l *Link, side int, half int, under ...string) {
	t.Helper()
	for range 2 {
		if h := l.Half(side); h != half {
			t.Fatalf("%v: Half(%d) = %d, want %d", what, side, h, half)
		}
		if f := l.Flight(side); !slices.EqualFunc(f, under, same) {
			t.Fatalf("%v: Flight(%d) = %q, want %q", what, side, f, under)
		}
		if n := l.Len(side); n != len(under) {
			t.Fatalf("%v: Len(%d) = %d, want %d", what, side, n, len(under))
		}
	}
}

func same(b []byte, s string) bool { return string(b) == s }

// pair is a Link and its model, that are told the same.
type pair struct {
	l *Link
	m *model
}

// begun gives a pair behind these calls, all of which are taken.
func begun(t *testing.T, calls ...call) *pair {
	t.Helper()
	p := &pair{New(), &model{}}
	if p.l == nil {
		t.Fatal("New() is nil")
	}
	tells(t, "New", p.l, p.m)
	for _, c := range calls {
		if a := p.does(t, c); a.code != api.OK {
			t.Fatalf("%v: number %d", c, a.code)
		}
	}
	return p
}

// does makes the call on both, and holds all that is told then against each other.
func (p *pair) does(t *testing.T, c call) answer {
	t.Helper()
	want := p.m.play(c)
	got, err := c.on(p.l)
	answers(t, c, got, err, want)
	tells(t, c, p.l, p.m)
	return want
}

// refuses: the call answers that number, and nothing has changed.
func (p *pair) refuses(t *testing.T, c call, code api.Errno, at int) {
	t.Helper()
	before := [2][]string{p.m.under(0), p.m.under(1)}
	halves := [2]int{p.m.half(0), p.m.half(1)}
	if want := p.does(t, c); want != (answer{code: code, at: at}) {
		t.Fatalf("%v: the model says %v, the test %d at %d", c, want, code, at)
	}
	for side := range 2 {
		has(t, c, p.l, side, halves[side], before[side]...)
	}
}

// takes: the call answers these bytes (none, but by Carry), and the side has just that under way then.
func (p *pair) takes(t *testing.T, c call, arrived string, half int, under ...string) {
	t.Helper()
	if want := p.does(t, c); want != (answer{bytes: arrived}) {
		t.Fatalf("%v: the model says %v, the test %q", c, want, arrived)
	}
	has(t, c, p.l, c.side, half, under...)
}

// full gives the calls by which a side has so many pieces under way, each with a text of its own.
func full(side, count int) []call {
	var list []call
	for i := range count {
		list = append(list, send(side, fmt.Sprintf("p%03d", i)))
	}
	return list
}

func long(n int) string { return string(bytes.Repeat([]byte("m"), n)) }

// outside are no places of a list with so many.
func outside(count int) []int {
	return []int{math.MinInt, math.MinInt32, -count - 1, -count, -2, -1, count, count + 1, 2*count + 1, 255 + count, 256 + count, 1 << 32, math.MaxInt}
}

// wrongSides are neither 0 nor 1.
func wrongSides() []int {
	return []int{math.MinInt, -1 << 32, -256, -2, -1, 2, 3, 256, 257, 1 << 32, 1<<32 + 1, math.MaxInt}
}
