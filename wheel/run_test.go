package wheel

import (
	"math/rand"
	"slices"
	"testing"
)

func TestP1305Runs(t *testing.T)          { each(t, suite.runs) }
func TestP1306ToldOnce(t *testing.T)      { each(t, suite.toldOnce) }
func TestP1307LeapsByTheWay(t *testing.T) { each(t, suite.leapsByTheWay) }
func TestP1308AnyOrder(t *testing.T)      { each(t, suite.anyOrder) }
func TestP1309InTurns(t *testing.T)       { each(t, suite.inTurns) }

// step does one call of any kind to a Wheel and to its table.
func (s of[K]) step(t *testing.T, g *rand.Rand, p pair[K]) {
	t.Helper()
	key := s.key(g.Intn(40))
	switch g.Intn(12) {
	case 0:
		l := append(outside(), p.m.now-1, p.m.now)
		p.set(t, key, l[g.Intn(len(l))])
	case 1:
		if l := outside(); g.Intn(2) == 0 {
			p.advance(t, l[g.Intn(len(l))])
		} else {
			p.advance(t, p.m.now)
		}
	case 2, 3:
		p.stop(t, key)
	case 4, 5:
		to := ahead(g, p.m.now)
		if to-p.m.now > 100000 && g.Intn(3) > 0 { // or the end would soon be come to
			to = p.m.now + 1 + g.Intn(5000)
		}
		p.advance(t, to)
	case 6:
		if l := p.m.all(); len(l) > 0 {
			p.advance(t, l[g.Intn(len(l))].Tick-g.Intn(2))
		}
	default:
		p.set(t, key, ahead(g, p.m.now))
	}
}

func (s of[K]) runs(t *testing.T) {
	g := rand.New(rand.NewSource(1305))
	for range 150 {
		p := s.pair(t, someClock(g))
		for range 60 {
			s.step(t, g, p)
			p.same(t, "in a run")
		}
	}
}

// toldOnce counts each timer that is set with a key of its own: it is told by the first Advance that comes to its tick.
func (s of[K]) toldOnce(t *testing.T) {
	g := rand.New(rand.NewSource(1306))
	for range 60 {
		p := s.pair(t, someClock(g))
		due, told := map[K]int{}, map[K]int{}
		for i := range 300 {
			key := s.key(i)
			if tick := ahead(g, p.w.Now()); p.w.Set(key, tick) == nil {
				due[key] = tick
			}
			if g.Intn(5) == 0 {
				other := s.key(g.Intn(i + 1))
				if p.w.Stop(other) {
					delete(due, other)
				}
			}
			if g.Intn(4) > 0 {
				continue
			}
			before := p.w.Now()
			to := min(end, before+g.Intn(200))
			l, err := p.w.Advance(to)
			agrees(t, "Advance", err, 0)
			for _, d := range l {
				told[d.Key]++
				if due[d.Key] != d.Tick || d.Tick <= before || d.Tick > to {
					t.Fatalf("%#v is told between %d and %d; it was set to %d", d, before, to, due[d.Key])
				}
			}
		}
		l, err := p.w.Advance(end)
		agrees(t, "Advance", err, 0)
		for _, d := range l {
			told[d.Key]++
		}
		if len(told) != len(due) {
			t.Fatalf("%d are told, %d were set", len(told), len(due))
		}
		for key := range due {
			if told[key] != 1 {
				t.Fatalf("%#v is told %d times", key, told[key])
			}
		}
	}
}

// A key that is set again is told for its last tick alone, also where that one comes first.
func TestP1306SetAgainIsToldOnce(t *testing.T) {
	s := of[string]{text}
	for _, a := range leaps()[1:] {
		for _, b := range leaps()[1:] {
			p := s.pair(t, 0)
			if p.w.Set("k", a) != nil || p.w.Set("k", b) != nil {
				continue
			}
			l, err := p.w.Advance(end)
			agrees(t, "Advance", err, 0)
			if !slices.Equal(l, []Due[string]{{"k", b}}) {
				t.Fatalf("set to %d and then to %d: %v", a, b, l)
			}
		}
	}
}

// fill sets the same timers in two Wheels.
func (s of[K]) fill(t *testing.T, g *rand.Rand, p, q pair[K], n int) {
	t.Helper()
	for range n {
		key, tick := s.key(g.Intn(60)), ahead(g, p.m.now)
		p.set(t, key, tick)
		q.set(t, key, tick)
	}
}

// leapsByTheWay: one Wheel leaps, the other goes there by way of other clocks.
func (s of[K]) leapsByTheWay(t *testing.T) {
	g := rand.New(rand.NewSource(1307))
	for range 300 {
		now := someClock(g)
		p, q := s.pair(t, now), s.pair(t, now)
		for range 4 {
			s.fill(t, g, p, q, 30)
			to := min(end, ahead(g, p.w.Now()))
			var told []Due[K]
			for range g.Intn(4) {
				by := min(to, ahead(g, q.w.Now()))
				l, err := q.w.Advance(by)
				agrees(t, "Advance by the way", err, 0)
				told = append(told, l...)
			}
			l, err := q.w.Advance(to)
			agrees(t, "Advance", err, 0)
			q.m.advance(to)
			if told = append(told, l...); !slices.Equal(told, p.advance(t, to)) {
				t.Fatalf("by the way to %d: %#v", to, told)
			}
			p.same(t, "at once")
			q.same(t, "by the way")
		}
	}
}

func (s of[K]) anyOrder(t *testing.T) {
	g := rand.New(rand.NewSource(1308))
	for range 60 {
		now := someClock(g)
		ticks := map[int]int{}
		for i := range 60 {
			if tick := ahead(g, now) &^ g.Intn(4); tick > now && tick <= end {
				ticks[i] = tick
			}
		}
		var wheels []pair[K]
		for range 4 {
			p := s.pair(t, now)
			for _, i := range g.Perm(60) {
				if tick, ok := ticks[i]; ok {
					p.set(t, s.key(i), tick)
				}
			}
			wheels = append(wheels, p)
		}
		for to := now; to < end; to = min(end, ahead(g, to)) {
			for _, p := range wheels {
				p.advance(t, to)
				p.same(t, "set in any order")
			}
		}
		for _, p := range wheels {
			p.advance(t, end)
		}
	}
}

// inTurns: what is done to one Wheel is not seen in another.
func (s of[K]) inTurns(t *testing.T) {
	g := rand.New(rand.NewSource(1309))
	wheels := []pair[K]{s.pair(t, 0), s.pair(t, 0), s.pair(t, 1<<36-5)}
	for range 1500 {
		i := g.Intn(3)
		s.step(t, g, wheels[i])
		if wheels[i].m.now > end/2 {
			wheels[i] = s.pair(t, someClock(g)/4)
		}
		for _, p := range wheels {
			p.same(t, "in turns")
		}
	}
}
