package wheel

import (
	"bytes"
	"slices"
	"testing"
	"time"

	"courier/api"
)

func TestP1304Outside(t *testing.T)       { each(t, suite.advanceOutside) }
func TestP1304ToTheClock(t *testing.T)    { each(t, suite.advanceToTheClock) }
func TestP1304ToATick(t *testing.T)       { each(t, suite.advanceToATick) }
func TestP1304OverLeaps(t *testing.T)     { each(t, suite.advanceOverLeaps) }
func TestP1304OverHighBits(t *testing.T)  { each(t, suite.advanceOverHighBits) }
func TestP1304ByOnes(t *testing.T)        { each(t, suite.advanceByOnes) }
func TestP1304OneTickByKey(t *testing.T)  { each(t, suite.oneTickByKey) }
func TestP1309LongLeapsEnd(t *testing.T)  { each(t, suite.longLeaps) }
func TestP1309WhatWasToldIs(t *testing.T) { each(t, suite.writtenOver) }

func (s of[K]) advanceOutside(t *testing.T) {
	for _, now := range []int{0, 1, 64, 1 << 36, end} {
		p := s.pair(t, now)
		for i, n := range []int{1, 63, 64, 4096} {
			p.set(t, s.key(i), now+n)
		}
		for _, to := range append(outside(), now-4096, now-64, now-1, end+1) {
			if to >= now && to <= end {
				continue
			}
			l, err := p.w.Advance(to)
			refused(t, "Advance", err, api.ErrRange)
			if len(l) != 0 {
				t.Fatalf("Advance(%d) = %#v beside %v", to, l, err)
			}
			p.same(t, "behind a refused Advance")
		}
	}
}

func (s of[K]) advanceToTheClock(t *testing.T) {
	for _, now := range []int{0, 62, 63, 64, 1 << 36, end - 1, end} {
		p := s.pair(t, now)
		for i, n := range []int{1, 2, 63, 64, 4096, 1 << 24} {
			p.set(t, s.key(i), now+n)
		}
		for range 3 {
			if l := p.advance(t, now); len(l) != 0 {
				t.Fatalf("Advance to the clock: %#v", l)
			}
			p.same(t, "behind Advance to the clock")
		}
	}
}

// advanceToATick: one short of its tick a timer stays, at its tick it is told, behind it no more.
func (s of[K]) advanceToATick(t *testing.T) {
	for _, now := range leaps() {
		for _, n := range leaps()[1:] {
			if now+n > end {
				continue
			}
			p := s.pair(t, now)
			p.set(t, s.key(0), now+n)
			if l := p.advance(t, now+n-1); len(l) != 0 {
				t.Fatalf("one short of its tick: %#v", l)
			}
			p.same(t, "one short of its tick")
			if l := p.advance(t, now+n); !slices.Equal(l, []Due[K]{{s.key(0), now + n}}) {
				t.Fatalf("at its tick: %#v", l)
			}
			p.same(t, "at its tick")
			if now+n < end {
				p.advance(t, now+n+1)
			}
			p.advance(t, end)
			p.same(t, "behind its tick")
		}
	}
}

// advanceOverLeaps: each leap, with timers at all lengths about its end.
func (s of[K]) advanceOverLeaps(t *testing.T) {
	for _, now := range []int{0, 1, 62, 63, 64, 65, 4094, 4095, 4096, 1<<24 - 1, 1<<36 - 2} {
		for _, leap := range leaps() {
			p := s.pair(t, now)
			for i, n := range leaps() {
				p.set(t, s.key(i), now+n)
			}
			for i, n := range []int{-65, -64, -2, -1, 0, 1, 2, 63, 64, 65, 4096} {
				p.set(t, s.key(100+i), now+leap+n)
			}
			p.advance(t, now+leap)
			p.same(t, "behind a leap")
			p.advance(t, now+leap+1)
			p.same(t, "one behind it")
			p.advance(t, end)
			p.same(t, "at the end")
		}
	}
}

// advanceOverHighBits: clocks one step ahead of a change of each bit.
func (s of[K]) advanceOverHighBits(t *testing.T) {
	for bits := 1; bits <= 40; bits++ {
		for _, step := range []int{1, 2, 63, 64, 65, 1 << (bits - 1), end} {
			p := s.pair(t, 1<<bits-1)
			for i, n := range []int{0, 1, 2, 62, 63, 64, 65, 4096, 1 << (bits - 1), 1 << bits} {
				p.set(t, s.key(i), 1<<bits+n)
			}
			p.set(t, s.key(77), end)
			p.advance(t, min(end, 1<<bits-1+step))
			p.same(t, "behind the change")
			p.advance(t, min(end, 1<<bits+70))
			p.same(t, "a while behind it")
			p.advance(t, end)
			p.same(t, "at the end")
		}
	}
}

// advanceByOnes goes tick by tick over three slots of the second level.
func (s of[K]) advanceByOnes(t *testing.T) {
	for _, from := range []int{0, 4096 - 100, 1<<18 - 100, 1<<36 - 100, end - 200} {
		p := s.pair(t, from)
		for i := range 300 {
			p.set(t, s.key(i), from+1+i*i%193)
		}
		for to := from; to <= from+200; to++ {
			p.advance(t, to)
			if n, ok := p.w.Next(); ok && n <= to {
				t.Fatalf("Next() = %d, while the clock is %d", n, to)
			}
		}
		p.same(t, "at the end")
		if p.w.Len() != 0 {
			t.Fatalf("left over: %#v", p.w.All())
		}
	}
}

func (s of[K]) oneTickByKey(t *testing.T) {
	for _, tick := range []int{1, 63, 64, 5000, 1 << 36, end} {
		p := s.pair(t, 0)
		for i := range 500 {
			p.set(t, s.key(499-i*7%500), tick)
		}
		p.same(t, "all of one tick")
		l := p.advance(t, tick)
		if len(l) != 500 {
			t.Fatalf("%d are told", len(l))
		}
		for i := range l[1:] {
			if l[i].Key >= l[i+1].Key {
				t.Fatalf("%#v is told ahead of %#v", l[i], l[i+1])
			}
		}
	}
}

func TestP1304TextsByteByByte(t *testing.T) {
	texts := []string{"", "\x00", "\x00\x00", "\x00a", "10", "9", "A", "Z", "a", "a\x00", "aa", "ab", "a\xff", "b", "\u00e9", "\u00e9a", "\u20ac", "\U0001f600", "\xfe", "\xff", "\xff\x00"}
	for i := range texts[1:] {
		if bytes.Compare([]byte(texts[i]), []byte(texts[i+1])) >= 0 {
			t.Fatalf("%q does not stand ahead of %q", texts[i], texts[i+1])
		}
	}
	w, err := New[string](0)
	agrees(t, "New", err, 0)
	for _, i := range []int{3, 20, 0, 19, 1, 5, 18, 4, 2, 17, 16, 6, 15, 7, 14, 8, 13, 9, 12, 10, 11} {
		agrees(t, "Set", w.Set(texts[i], 7), 0)
	}
	told := func(what string, l []Due[string]) {
		t.Helper()
		var got []string
		for _, d := range l {
			got = append(got, d.Key)
		}
		if !slices.Equal(got, texts) {
			t.Fatalf("%s: %q, want %q", what, got, texts)
		}
	}
	told("All", w.All())
	l, err := w.Advance(7)
	agrees(t, "Advance", err, 0)
	told("Advance", l)
}

func TestP1304NumbersBySize(t *testing.T) {
	w, err := New[number](0)
	agrees(t, "New", err, 0)
	for _, key := range []number{10, -1, 9, 0, -10, 1} {
		agrees(t, "Set", w.Set(key, 64), 0)
	}
	l, err := w.Advance(64)
	agrees(t, "Advance", err, 0)
	if want := []Due[number]{{-10, 64}, {-1, 64}, {0, 64}, {1, 64}, {9, 64}, {10, 64}}; !slices.Equal(l, want) {
		t.Fatalf("Advance(64) = %v", l)
	}
}

// longLeaps: a clock that would count its ticks would not come to the end of one of these.
func (s of[K]) longLeaps(t *testing.T) {
	ended := make(chan int)
	go func() {
		told := 0
		for range 1000 {
			w, _ := New[K](0)
			w.Set(s.key(0), 1)
			w.Set(s.key(1), end-1)
			l, _ := w.Advance(end)
			told += len(l)
		}
		ended <- told
	}()
	select {
	case told := <-ended:
		if told != 2000 {
			t.Fatalf("%d are told", told)
		}
	case <-time.After(time.Minute):
		t.Fatal("a leap does not end")
	}
	for round := range 200 {
		p := s.pair(t, 0)
		for i := range round {
			p.set(t, s.key(i), 1+i*(end/200))
		}
		p.advance(t, end)
		p.same(t, "behind the whole")
		q := s.pair(t, round)
		q.set(t, s.key(0), end)
		q.advance(t, end-1)
		q.same(t, "one ahead of the end")
		q.advance(t, end)
	}
}

func (s of[K]) writtenOver(t *testing.T) {
	p := s.pair(t, 0)
	for i := range 200 {
		p.set(t, s.key(i), 1+i*i)
	}
	for _, to := range []int{0, 1, 100, 101, 4096, 20000, end} {
		lists := [][]Due[K]{p.w.All(), p.advance(t, to), p.w.All()}
		for _, l := range lists {
			l = l[:cap(l)]
			for i := range l {
				l[i] = Due[K]{s.key(5000), -7}
			}
		}
		p.same(t, "behind a list written over")
		for i := range 5 {
			p.set(t, s.key(300+i), to+1+i)
		}
		p.same(t, "behind Set")
	}
}

// An answer stays as it was, whatever is done to the Wheel behind it.
func TestP1309AnswersStay(t *testing.T) {
	s := of[string]{text}
	p := s.pair(t, 0)
	for i := range 200 {
		p.set(t, s.key(i), 1+i%70)
	}
	all := p.w.All()
	due := p.advance(t, 64)
	kept := [][]Due[string]{slices.Clone(all), slices.Clone(due)}
	for i := range 400 {
		p.set(t, s.key(i), 65+i%300)
	}
	for i := range 100 {
		p.stop(t, s.key(i*3))
	}
	p.advance(t, 5000)
	if !slices.Equal(all, kept[0]) || !slices.Equal(due, kept[1]) {
		t.Fatal("an answer has changed")
	}
}

// What the holder of a copied Wheel sees is not said; but no call may panic.
func TestP1309ACopiedWheel(t *testing.T) {
	s := of[int]{spread}
	p := s.pair(t, 0)
	for i := range 100 {
		p.set(t, s.key(i), 1+i*50)
	}
	copied := *p.w
	for i := range 100 {
		p.w.Stop(s.key(i))
		agrees(t, "Set", copied.Set(s.key(i), 70+i), 0)
		p.w.At(s.key(i))
		copied.Stop(s.key(99 - i))
		agrees(t, "Set", p.w.Set(s.key(i), 90+i), 0)
	}
	for to := range 300 {
		_, err := copied.Advance(to)
		agrees(t, "Advance", err, 0)
		p.w.Next()
		p.w.All()
	}
}
