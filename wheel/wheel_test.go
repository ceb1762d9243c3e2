package wheel

import (
	"math/rand"
	"slices"
	"testing"

	"courier/api"
)

func TestP1301New(t *testing.T)        { each(t, suite.newAtItsBounds) }
func TestP1301NewOutside(t *testing.T) { each(t, suite.newOutside) }
func TestP1301NotMade(t *testing.T)    { each(t, suite.notMade) }
func TestP1302Set(t *testing.T)        { each(t, suite.setAtItsBounds) }
func TestP1302SetAgain(t *testing.T)   { each(t, suite.setAgain) }
func TestP1302SetOfMany(t *testing.T)  { each(t, suite.setOfMany) }
func TestP1303Stop(t *testing.T)       { each(t, suite.stop) }
func TestP1303StopOfMany(t *testing.T) { each(t, suite.stopAmongMany) }
func TestP1305Asking(t *testing.T)     { each(t, suite.asking) }

func (s of[K]) newAtItsBounds(t *testing.T) {
	for _, now := range []int{0, 1, 2, 62, 63, 64, 65, 4095, 4096, 1<<36 - 1, 1 << 36, end - 1, end} {
		p := s.pair(t, now)
		if p.w.Now() != now || p.w.Len() != 0 || len(p.w.All()) != 0 {
			t.Fatalf("New(%d): %d, %#v", now, p.w.Now(), p.w.All())
		}
	}
}

func (s of[K]) newOutside(t *testing.T) {
	for _, now := range outside() {
		w, err := New[K](now)
		refused(t, "New", err, api.ErrRange)
		if w != nil {
			t.Fatalf("New(%d): a Wheel beside %v", now, err)
		}
	}
}

func (s of[K]) notMade(t *testing.T) {
	var plain Wheel[K]
	ticks := append(outside(), 0, 1, 63, 64, end-1, end)
	for what, w := range map[string]*Wheel[K]{"nil": nil, "plain": &plain, "new": new(Wheel[K])} {
		for _, tick := range ticks {
			for i := range 3 {
				refused(t, what+": Set", w.Set(s.key(i), tick), api.ErrZero)
				at, ok := w.At(s.key(i))
				if w.Stop(s.key(i)) || at != 0 || ok {
					t.Fatalf("%s: a timer of %#v", what, s.key(i))
				}
			}
			l, err := w.Advance(tick)
			refused(t, what+": Advance", err, api.ErrZero)
			next, ok := w.Next()
			if len(l) != 0 || next != 0 || ok || w.Now() != 0 || w.Len() != 0 || len(w.All()) != 0 {
				t.Fatalf("%s: %#v, Next %d, %v, Now %d, Len %d, All %#v", what, l, next, ok, w.Now(), w.Len(), w.All())
			}
		}
	}
}

func (s of[K]) setAtItsBounds(t *testing.T) {
	for _, now := range []int{0, 1, 63, 64, 4095, 1 << 36, end - 1, end} {
		for _, tick := range append(outside(), now-64, now-1, now, now+1, now+2, now+64, end-1, end) {
			for _, has := range []bool{false, true} {
				p := s.pair(t, now)
				p.set(t, s.key(1), now+5)
				if has {
					p.set(t, s.key(2), now+1)
				}
				p.set(t, s.key(2), tick)
				p.same(t, "behind Set")
			}
		}
	}
	p := s.pair(t, 7)
	refused(t, "Set at the clock", p.w.Set(s.key(0), 7), api.ErrRange)
	agrees(t, "Set above the clock", p.w.Set(s.key(0), 8), 0)
	agrees(t, "Set at MaxTick", p.w.Set(s.key(1), api.MaxTick), 0)
	refused(t, "Set beyond MaxTick", p.w.Set(s.key(1), api.MaxTick+1), api.ErrRange)
	if want := []Due[K]{{s.key(0), 8}, {s.key(1), api.MaxTick}}; !slices.Equal(p.w.All(), want) {
		t.Fatalf("All() = %#v, want %#v", p.w.All(), want)
	}
}

// setAgain moves a timer from each distance to each other one.
func (s of[K]) setAgain(t *testing.T) {
	for _, now := range []int{0, 62, 63, 4095, 1<<36 - 1} {
		for _, a := range leaps() {
			p := s.pair(t, now)
			p.set(t, s.key(3), now+64)
			for _, b := range leaps() {
				p.set(t, s.key(0), now+a)
				p.set(t, s.key(0), now+b)
			}
			p.same(t, "behind Set again")
			if p.w.Len() > 2 {
				t.Fatalf("two timers of one key: %#v", p.w.All())
			}
		}
	}
}

func (s of[K]) setOfMany(t *testing.T) {
	for _, tick := range []func(i int) int{
		func(i int) int { return 100 },             // all in one slot
		func(i int) int { return 1 + i },           // side by side
		func(i int) int { return 1 + i*(end>>12) }, // over all levels
	} {
		p := s.pair(t, 0)
		for i := range api.MaxTimers {
			agrees(t, "Set", p.w.Set(s.key(i), tick(i)), 0)
			p.m.set(s.key(i), tick(i))
		}
		p.same(t, "full")
		more := s.key(api.MaxTimers)
		refused(t, "one more", p.w.Set(more, 200), api.ErrFull)
		refused(t, "one more, at the clock", p.w.Set(more, 0), api.ErrRange)
		refused(t, "one more, beyond MaxTick", p.w.Set(more, end+1), api.ErrRange)
		p.same(t, "behind what is refused")
		for _, i := range []int{0, 1, 2048, api.MaxTimers - 1} {
			p.set(t, s.key(i), 5000)
		}
		p.same(t, "of keys among them")
		p.stop(t, s.key(77))
		p.set(t, more, 200)
		refused(t, "again full", p.w.Set(s.key(77), 200), api.ErrFull)
		p.same(t, "again full")
		p.advance(t, end)
		p.same(t, "empty")
	}
}

func (s of[K]) stop(t *testing.T) {
	p := s.pair(t, 60)
	if p.w.Stop(s.key(0)) {
		t.Fatal("Stop of an empty Wheel")
	}
	for _, tick := range []int{61, 64, 128, 4096, 1 << 36, end} {
		agrees(t, "Set", p.w.Set(s.key(0), tick), 0)
		if p.w.Stop(s.key(1)) {
			t.Fatal("Stop of a key without a timer")
		}
		if !p.w.Stop(s.key(0)) || p.w.Stop(s.key(0)) {
			t.Fatalf("Stop at %d, and again", tick)
		}
		p.same(t, "behind Stop")
	}
	p.advance(t, end)
	p.stop(t, s.key(0))
	q := s.pair(t, 0)
	q.set(t, s.key(0), 5)
	q.advance(t, 5)
	if q.w.Stop(s.key(0)) {
		t.Fatal("Stop of a timer that was told")
	}
}

// stopAmongMany takes timers of one slot away from its beginning, its end and between.
func (s of[K]) stopAmongMany(t *testing.T) {
	g := rand.New(rand.NewSource(1303))
	for _, tick := range []func(i int) int{
		func(i int) int { return 70 },
		func(i int) int { return 64 + i%64 },
		func(i int) int { return 1 + i },
	} {
		for _, order := range [][]int{sequence(50), reversed(50), g.Perm(50)} {
			p := s.pair(t, 0)
			for i := range 50 {
				p.set(t, s.key(i), tick(i))
			}
			for _, i := range order {
				p.stop(t, s.key(i))
				p.stop(t, s.key(i))
				p.same(t, "behind Stop")
			}
		}
	}
}

func sequence(n int) []int {
	var l []int
	for i := range n {
		l = append(l, i)
	}
	return l
}

func reversed(n int) []int {
	l := sequence(n)
	slices.Reverse(l)
	return l
}

// asking: what tells alone may be asked as often as one likes, and is the same.
func (s of[K]) asking(t *testing.T) {
	p := s.pair(t, 62)
	if n, ok := p.w.Next(); n != 0 || ok {
		t.Fatalf("Next of none: %d, %v", n, ok)
	}
	for i, tick := range []int{4096, 64, 63, 64, end, 128, 127} {
		p.set(t, s.key(i), tick)
		for range 3 {
			p.same(t, "behind Set")
			if n, ok := p.w.At(s.key(50)); n != 0 || ok {
				t.Fatalf("At of a key without a timer: %d, %v", n, ok)
			}
		}
	}
	for _, to := range []int{62, 63, 64, 4095, end} {
		p.advance(t, to)
		for range 3 {
			p.same(t, "behind Advance")
		}
		if n, ok := p.w.At(s.key(2)); to >= 63 && (n != 0 || ok) {
			t.Fatalf("At of a timer that was told: %d, %v", n, ok)
		}
	}
}

// The chapter's example, word by word.
func TestP1304Example(t *testing.T) {
	w, err := New[string](62)
	agrees(t, "New", err, 0)
	for _, d := range []Due[string]{{"b", 64}, {"a", 64}, {"c", 63}, {"d", 4096}} {
		agrees(t, "Set", w.Set(d.Key, d.Tick), 0)
	}
	next := func(want int) {
		t.Helper()
		if n, ok := w.Next(); n != want || !ok {
			t.Fatalf("Next() = %d, %v; want %d", n, ok, want)
		}
	}
	next(63)
	l, err := w.Advance(64)
	if !slices.Equal(l, []Due[string]{{"c", 63}, {"a", 64}, {"b", 64}}) || err != nil {
		t.Fatalf("Advance(64) = %v, %v", l, err)
	}
	next(4096)
	refused(t, `Set("e", 64)`, w.Set("e", 64), api.ErrRange)
	agrees(t, `Set("d", 5000)`, w.Set("d", 5000), 0)
	if l, err := w.Advance(4999); len(l) != 0 || err != nil {
		t.Fatalf("Advance(4999) = %v, %v", l, err)
	}
	if !w.Stop("d") || w.Stop("d") {
		t.Fatal(`Stop("d")`)
	}
	l, err = w.Advance(63)
	refused(t, "Advance(63)", err, api.ErrRange)
	if len(l) != 0 || w.Now() != 4999 {
		t.Fatalf("Advance(63) = %v, Now() = %d", l, w.Now())
	}
}
