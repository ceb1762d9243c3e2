package link

import (
	"fmt"
	"math/rand"
	"slices"
	"strings"
	"testing"

	"courier/api"
)

// Runs of many calls beside the model: P1905 to P1907.

func oneOf[T any](g *rand.Rand, list []T) T { return list[g.Intn(len(list))] }

// smallCalls are all calls of one side of a Link with few and short pieces, refused ones too.
func smallCalls(side int) []call {
	list := []call{send(side, "abc"), noise(side, "x"), noise(side, "\r")}
	for i := -1; i < 3; i++ {
		list = append(list, drop(side, i), double(side, i))
		for n := -1; n < 4; n++ {
			list = append(list, carry(side, i, n), clip(side, i, n))
		}
	}
	return list
}

// Every run of three calls, from each of these beginnings.
func TestP1905AllShortRuns(t *testing.T) {
	calls := smallCalls(0)
	for _, first := range [][]call{
		nil,
		{send(0, "abc")},
		{send(0, "abc"), carry(0, 0, 1)},
		{send(0, "ab"), send(0, "cde"), send(1, "z")},
		{send(0, "ab"), send(0, "cde"), send(1, "zz"), carry(0, 1, 1), carry(1, 0, 1)},
	} {
		for _, a := range calls {
			for _, b := range calls {
				p := begun(t, first...)
				p.does(t, a)
				p.does(t, b)
				for _, c := range calls {
					q := &pair{again(first, a, b), p.m.copied()}
					q.does(t, c)
				}
			}
		}
	}
}

// again plays calls on a new Link.
func again(first []call, more ...call) *Link {
	l := New()
	for _, c := range append(slices.Clip(first), more...) {
		c.on(l)
	}
	return l
}

// anyCall picks a call; most of them are taken.
func anyCall(g *rand.Rand, m *model, fill int) call {
	side := g.Intn(2)
	list := m.sides[side]
	if g.Intn(40) == 0 {
		return oneOf(g, everyCall(oneOf(g, []int{-1, 0, 1, 2})))
	}
	if len(list) == 0 || g.Intn(100) < fill {
		return oneOf(g, []call{send(side, word(g, 9)), send(side, word(g, 90)), raw(side, word(g, 9)), noise(side, word(g, 9)), double(side, g.Intn(len(list)+1))})
	}
	i := g.Intn(len(list))
	if half := m.half(side); half >= 0 && g.Intn(2) == 0 {
		i = half
	}
	n := g.Intn(len(list[i].left()) + 2)
	return oneOf(g, []call{carry(side, i, n), carry(side, i, n), carry(side, i, 0), clip(side, i, n), drop(side, i), double(side, i)})
}

func word(g *rand.Rand, most int) string {
	b := make([]byte, 1+g.Intn(most))
	for i := range b {
		b[i] = byte(g.Intn(256))
	}
	return string(b)
}

func TestP1905RunsAnswerAsTheModel(t *testing.T) {
	g := rand.New(rand.NewSource(1905))
	for range 200 {
		p, fill := begun(t), 20+g.Intn(40)
		for range 150 {
			p.does(t, anyCall(g, p.m, fill))
		}
	}
}

func TestP1905RunsAtTheBound(t *testing.T) {
	g := rand.New(rand.NewSource(1906))
	p := begun(t, append(full(0, mostUnder-3), full(1, mostUnder-2)...)...)
	wasFull := 0
	for range 1500 {
		if p.does(t, anyCall(g, p.m, 52)).code == api.ErrFull {
			wasFull++
		}
	}
	if wasFull == 0 {
		t.Error("no call met MaxFlight pieces")
	}
}

// What is done on one side is not seen on the other: a Link that hears of one side alone tells the same of it.
func TestP1906EachSideByItself(t *testing.T) {
	g := rand.New(rand.NewSource(1907))
	for range 100 {
		p := begun(t)
		alone := [2]*Link{New(), New()}
		for range 100 {
			c := anyCall(g, p.m, 40)
			got, err := c.on(p.l)
			p.m.play(c)
			for side := range alone {
				if c.side == side {
					other, otherErr := c.on(alone[side])
					if string(got) != string(other) || fmt.Sprint(err) != fmt.Sprint(otherErr) {
						t.Fatalf("%v: %q, %v; by itself %q, %v", c, got, err, other, otherErr)
					}
				}
				has(t, c, alone[side], side, p.l.Half(side), p.m.under(side)...)
				has(t, c, alone[side], 1-side, -1)
			}
		}
	}
}

func TestP1906EveryCallOnOneSide(t *testing.T) {
	for side := range 2 {
		for _, first := range [][]call{{send(side, "abc"), send(side, "de")}, {send(side, "abc"), send(side, "de"), carry(side, 0, 1)}} {
			for _, c := range everyCall(1 - side) {
				p := begun(t, append(first, send(1-side, "xyz"))...)
				half, under := p.m.half(side), p.m.under(side)
				p.does(t, c)
				has(t, c, p.l, side, half, under...)
			}
		}
	}
}

// named gives texts that tell by themselves where each begins, which one it is, and where it ends.
func named(g *rand.Rand, i int) string {
	return fmt.Sprintf("[%04d%s]", i, strings.Repeat("-", g.Intn(12)))
}

// stream is one side of a Link, and all that arrived of it.
type stream struct {
	l       *Link
	side    int
	arrived strings.Builder
	sent    []string // one entry a copy
}

func (s *stream) put(t *testing.T, text string) {
	t.Helper()
	if err := s.l.Send(s.side, []byte(text)); err != nil {
		t.Fatal(err)
	}
	s.sent = append(s.sent, text)
}

func (s *stream) double(g *rand.Rand) {
	i := g.Intn(s.l.Len(s.side))
	under := string(s.l.Flight(s.side)[i])
	if s.l.Double(s.side, i) == nil {
		s.sent = append(s.sent, under)
	}
}

// carry lets a part arrive: of the broken piece, or of any.
func (s *stream) carry(t *testing.T, g *rand.Rand) {
	t.Helper()
	i := s.l.Half(s.side)
	if i < 0 {
		i = g.Intn(s.l.Len(s.side))
	}
	b, err := s.l.Carry(s.side, i, g.Intn(1+len(s.l.Flight(s.side)[i])))
	if err != nil || len(b) == 0 {
		t.Fatalf("Carry: %q, %v", b, err)
	}
	s.arrived.Write(b)
}

// Cut anywhere and in any order: what arrives is whole texts one behind the other, each as often as it was put under way.
func TestP1907WholePiecesCutAnywhere(t *testing.T) {
	g := rand.New(rand.NewSource(1908))
	for range 300 {
		s := &stream{l: New(), side: g.Intn(2)}
		for i := range 40 {
			s.put(t, named(g, i))
			for s.l.Len(s.side) > 0 && g.Intn(3) > 0 {
				if g.Intn(5) == 0 {
					s.double(g)
				} else {
					s.carry(t, g)
				}
			}
		}
		for s.l.Len(s.side) > 0 {
			s.carry(t, g)
		}
		texts := strings.SplitAfter(s.arrived.String(), "]")
		texts = texts[:len(texts)-1]
		slices.Sort(texts)
		slices.Sort(s.sent)
		if !slices.Equal(texts, s.sent) {
			t.Fatalf("%q have arrived, %q were under way", texts, s.sent)
		}
	}
}

// parts cuts what arrived where texts begin; how many of them do not end.
func (s *stream) parts(t *testing.T) (unended int) {
	t.Helper()
	for i, part := range strings.Split(s.arrived.String(), "[") {
		if i == 0 {
			continue
		}
		if !slices.ContainsFunc(s.sent, func(whole string) bool { return strings.HasPrefix(whole, "["+part) }) {
			t.Fatalf("[%s is no beginning of what was under way, %q", part, s.sent)
		}
		if !strings.HasSuffix(part, "]") {
			unended++
		}
	}
	return unended
}

// What was not clipped arrives to its end, but where it is dropped ahead of it.
func TestP1907WholeUnlessDropped(t *testing.T) {
	g := rand.New(rand.NewSource(1909))
	for range 300 {
		s := &stream{l: New(), side: g.Intn(2)}
		unended := 0
		for i := range 40 {
			s.put(t, named(g, i))
			for s.l.Len(s.side) > 0 && g.Intn(3) > 0 {
				if g.Intn(5) > 0 {
					s.carry(t, g)
					continue
				}
				at := g.Intn(s.l.Len(s.side))
				if at == s.l.Half(s.side) {
					unended++
				}
				if err := s.l.Drop(s.side, at); err != nil {
					t.Fatal(err)
				}
			}
		}
		for s.l.Len(s.side) > 0 {
			s.carry(t, g)
		}
		if n := s.parts(t); n != unended {
			t.Fatalf("%d texts do not end, %d were dropped behind their beginning: %q", n, unended, s.arrived.String())
		}
	}
}

// Where pieces are clipped too, what arrives is beginnings of them.
func TestP1907Beginnings(t *testing.T) {
	g := rand.New(rand.NewSource(1912))
	for range 300 {
		s := &stream{l: New(), side: g.Intn(2)}
		for i := range 40 {
			s.put(t, named(g, i))
			for s.l.Len(s.side) > 0 && g.Intn(3) > 0 {
				at := g.Intn(s.l.Len(s.side))
				switch g.Intn(8) {
				case 0:
					s.l.Drop(s.side, at)
				case 1:
					s.l.Clip(s.side, at, 1+g.Intn(8))
				case 2:
					s.l.Double(s.side, at)
				default:
					s.carry(t, g)
				}
			}
		}
		s.parts(t)
	}
}

// Each piece by itself, cut in two, in three and in four at all places.
func TestP1907EveryCut(t *testing.T) {
	const whole = "abcdefg"
	for a := 1; a <= len(whole); a++ {
		for b := a; b <= len(whole); b++ {
			for c := b; c <= len(whole); c++ {
				p := begun(t, send(0, "x"), send(0, whole), send(0, "y"))
				arrived, come := "", 0
				for _, to := range []int{a, b, c, len(whole)} {
					if to > come {
						arrived += p.does(t, carry(0, 1, to-come)).bytes
						come = to
					}
				}
				if arrived != whole {
					t.Fatalf("cut at %d, %d, %d: %q", a, b, c, arrived)
				}
				has(t, "cut", p.l, 0, -1, "x", "y")
			}
		}
	}
}

// A dropped piece ends what arrives of it: the next one begins behind that.
func TestP1907DroppedInTheMiddle(t *testing.T) {
	p := begun(t, send(0, "abc"), send(0, "xyz"))
	arrived := p.does(t, carry(0, 0, 2)).bytes
	p.takes(t, drop(0, 0), "", -1, "xyz")
	arrived += p.does(t, carry(0, 0, 2)).bytes
	arrived += p.does(t, carry(0, 0, 0)).bytes
	if arrived != "abxyz" {
		t.Errorf("%q", arrived)
	}
	p = begun(t, send(0, "abcdef"), send(0, "xyz"))
	arrived = p.does(t, carry(0, 0, 2)).bytes
	p.takes(t, clip(0, 0, 2), "", 0, "cd", "xyz")
	arrived += p.does(t, carry(0, 0, 1)).bytes + p.does(t, carry(0, 0, 0)).bytes + p.does(t, carry(0, 0, 0)).bytes
	if arrived != "abcdxyz" {
		t.Errorf("%q", arrived)
	}
}
