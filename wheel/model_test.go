package wheel

import (
	"errors"
	"math"
	"math/rand"
	"slices"
	"sort"
	"strings"
	"testing"

	"courier/api"
)

const end = 1 << 40

// suite is what the tests ask of every type of keys.
type suite interface {
	newAtItsBounds(t *testing.T)
	newOutside(t *testing.T)
	notMade(t *testing.T)
	setAtItsBounds(t *testing.T)
	setAgain(t *testing.T)
	setOfMany(t *testing.T)
	stop(t *testing.T)
	stopAmongMany(t *testing.T)
	advanceOutside(t *testing.T)
	advanceToTheClock(t *testing.T)
	advanceToATick(t *testing.T)
	advanceOverLeaps(t *testing.T)
	advanceOverHighBits(t *testing.T)
	advanceByOnes(t *testing.T)
	oneTickByKey(t *testing.T)
	asking(t *testing.T)
	runs(t *testing.T)
	toldOnce(t *testing.T)
	leapsByTheWay(t *testing.T)
	anyOrder(t *testing.T)
	writtenOver(t *testing.T)
	inTurns(t *testing.T)
	longLeaps(t *testing.T)
}

// of is the suite of one type of keys; key gives for each number another one.
type of[K Key] struct{ key func(i int) K }

type (
	number int
	wide   int64
	name   string
)

// text gives texts whose order is not that of their numbers: the empty one, zero bytes, bytes that are no UTF-8.
func text(i int) string {
	var b strings.Builder
	for ; i > 0; i = (i - 1) / 5 {
		b.WriteString([]string{"a", "\x00", "\xff", "Z", "\u00e9"}[(i-1)%5])
	}
	return b.String()
}

// spread gives numbers below and above 0, the outermost among them.
func spread(i int) int {
	switch {
	case i == 0:
		return math.MinInt
	case i == 1:
		return math.MaxInt
	case i%2 == 0:
		return -i * 7919
	}
	return i
}

func each(t *testing.T, test func(s suite, t *testing.T)) {
	t.Helper()
	for _, x := range []struct {
		what string
		suite
	}{
		{"int", of[int]{spread}},
		{"int64", of[int64]{func(i int) int64 { return int64(spread(i)) }}},
		{"string", of[string]{text}},
		{"number", of[number]{func(i int) number { return number(spread(i)) }}},
		{"wide", of[wide]{func(i int) wide { return wide(spread(i)) }}},
		{"name", of[name]{func(i int) name { return name(text(i)) }}},
	} {
		t.Run(x.what, func(t *testing.T) { test(x.suite, t) })
	}
}

// refused: the error is this layer's Fault with that number, at 0, and nothing under it.
func refused(t *testing.T, what string, err error, code api.Errno) {
	t.Helper()
	var f *api.Fault
	if !errors.As(err, &f) {
		t.Fatalf("%s: %v, want number %d", what, err, code)
	}
	if *f != (api.Fault{Layer: "wheel", Code: code}) || !errors.Is(err, code) {
		t.Fatalf("%s: %+v, want number %d", what, *f, code)
	}
}

// agrees: the error is the one with that number; 0: there is none.
func agrees(t *testing.T, what string, err error, code api.Errno) {
	t.Helper()
	if code != 0 {
		refused(t, what, err, code)
	} else if err != nil {
		t.Fatalf("%s: %v", what, err)
	}
}

// model is the chapter's Wheel as a plain table.
type model[K Key] struct {
	now   int
	ticks map[K]int
}

func (m *model[K]) set(key K, tick int) api.Errno {
	_, has := m.ticks[key]
	switch {
	case tick <= m.now, tick > end:
		return api.ErrRange
	case len(m.ticks) == 4096 && !has:
		return api.ErrFull
	}
	m.ticks[key] = tick
	return 0
}

func (m *model[K]) stop(key K) bool {
	_, has := m.ticks[key]
	delete(m.ticks, key)
	return has
}

func (m *model[K]) advance(to int) ([]Due[K], api.Errno) {
	if to < m.now || to > end {
		return nil, api.ErrRange
	}
	m.now = to
	var due []Due[K]
	for _, d := range m.all() {
		if d.Tick <= to {
			due = append(due, d)
			delete(m.ticks, d.Key)
		}
	}
	return due, 0
}

func (m *model[K]) all() []Due[K] {
	var l []Due[K]
	for key, tick := range m.ticks {
		l = append(l, Due[K]{key, tick})
	}
	sort.Slice(l, func(i, j int) bool {
		return l[i].Tick < l[j].Tick || l[i].Tick == l[j].Tick && l[i].Key < l[j].Key
	})
	return l
}

// pair is a Wheel and the table that it must be like.
type pair[K Key] struct {
	w *Wheel[K]
	m *model[K]
}

func (of[K]) pair(t *testing.T, now int) pair[K] {
	t.Helper()
	w, err := New[K](now)
	if w == nil || err != nil {
		t.Fatalf("New(%d) = %v, %v", now, w, err)
	}
	p := pair[K]{w, &model[K]{now, map[K]int{}}}
	p.same(t, "New")
	return p
}

func (p pair[K]) set(t *testing.T, key K, tick int) {
	t.Helper()
	agrees(t, "Set", p.w.Set(key, tick), p.m.set(key, tick))
}

func (p pair[K]) stop(t *testing.T, key K) {
	t.Helper()
	want := p.m.stop(key)
	if got := p.w.Stop(key); got != want {
		t.Fatalf("Stop(%#v) = %v, want %v", key, got, want)
	}
}

func (p pair[K]) advance(t *testing.T, to int) []Due[K] {
	t.Helper()
	want, code := p.m.advance(to)
	got, err := p.w.Advance(to)
	agrees(t, "Advance", err, code)
	if !slices.Equal(got, want) {
		t.Fatalf("Advance(%d) = %#v, want %#v", to, got, want)
	}
	return got
}

// same: all that a Wheel tells of itself is as the table says.
func (p pair[K]) same(t *testing.T, what string) {
	t.Helper()
	all := p.m.all()
	if got := p.w.All(); !slices.Equal(got, all) {
		t.Fatalf("%s: All() = %#v, want %#v", what, got, all)
	}
	if p.w.Now() != p.m.now || p.w.Len() != len(all) {
		t.Fatalf("%s: Now %d, Len %d; want %d, %d", what, p.w.Now(), p.w.Len(), p.m.now, len(all))
	}
	tick, ok := p.w.Next()
	if ok != (len(all) > 0) || ok && tick != all[0].Tick || !ok && tick != 0 {
		t.Fatalf("%s: Next() = %d, %v; want that of %#v", what, tick, ok, all)
	}
	for _, d := range all {
		if tick, ok := p.w.At(d.Key); tick != d.Tick || !ok {
			t.Fatalf("%s: At(%#v) = %d, %v; want %d", what, d.Key, tick, ok, d.Tick)
		}
	}
	p.lies(t, what)
}

// lies: each timer is where the next Advance looks for it, and no slot keeps what is gone.
func (p pair[K]) lies(t *testing.T, what string) {
	t.Helper()
	in := p.w.timers
	n := 0
	for level := range in.lists {
		for slot, list := range in.lists[level] {
			for i, d := range list {
				if in.where[d.Key] != (place{level, slot, i}) {
					t.Fatalf("%s: %#v lies at %d, %d, %d, and not at %v", what, d, level, slot, i, in.where[d.Key])
				}
				high := width * (level + 1)
				if d.Tick>>high != p.m.now>>high || digit(d.Tick, level) != slot || slot <= digit(p.m.now, level) {
					t.Fatalf("%s: %#v lies at %d, %d while the clock is %d", what, d, level, slot, p.m.now)
				}
				n++
			}
			for _, d := range list[len(list):cap(list)] {
				if d != (Due[K]{}) {
					t.Fatalf("%s: %#v is kept at %d, %d", what, d, level, slot)
				}
			}
		}
	}
	if n != len(in.where) {
		t.Fatalf("%s: %d timers lie in slots, %d have a place", what, n, len(in.where))
	}
}

// leaps are the lengths at which a clock goes over the end of a slot, a level or more, and what stands beside them.
func leaps() []int {
	l := []int{0, 1, 2, 3, 62, 63, 64, 65, 127, 128, 4094, 4095, 4096, 4097, 1<<18 - 1, 1 << 18, 1<<18 + 1}
	for bits := 23; bits <= 40; bits++ {
		l = append(l, 1<<bits-1, 1<<bits, 1<<bits+1)
	}
	return l
}

// outside are clocks that none is.
func outside() []int {
	return []int{math.MinInt, math.MinInt + 1, -end, -4096, -64, -2, -1, end + 1, end + 2, end + 64, 1 << 41, 1 << 42, 1 << 48, math.MaxInt - 1, math.MaxInt}
}

// ahead gives a tick above the clock, of any length, which may lie beyond MaxTick.
func ahead(g *rand.Rand, now int) int {
	switch g.Intn(4) {
	case 0:
		return now + 1 + g.Intn(8)
	case 1:
		l := leaps()
		return now + l[g.Intn(len(l))]
	}
	return now + 1 + int(g.Int63()>>(22+g.Intn(40)))
}

// someClock gives a clock near to an end of a slot or a level, or any.
func someClock(g *rand.Rand) int {
	if g.Intn(2) == 0 {
		return int(g.Int63() >> (23 + g.Intn(40)))
	}
	l := leaps()
	return min(end, max(0, l[g.Intn(len(l))]+g.Intn(5)-2))
}
