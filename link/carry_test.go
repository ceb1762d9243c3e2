package link

import (
	"math"
	"testing"

	"courier/api"
)

// P1903: Carry.

func three(t *testing.T, calls ...call) *pair {
	t.Helper()
	return begun(t, append([]call{send(0, "abcd"), send(0, "efg"), send(0, "h"), send(1, "other")}, calls...)...)
}

func TestP1903WholePieces(t *testing.T) {
	for _, n := range []int{0, 4} {
		three(t).takes(t, carry(0, 0, n), "abcd", -1, "efg", "h")
	}
	for _, n := range []int{0, 3} {
		three(t).takes(t, carry(0, 1, n), "efg", -1, "abcd", "h")
	}
	for _, n := range []int{0, 1} {
		three(t).takes(t, carry(0, 2, n), "h", -1, "abcd", "efg")
	}
	for _, n := range []int{0, 5} {
		three(t).takes(t, carry(1, 0, n), "other", -1)
	}
}

func TestP1903Beginnings(t *testing.T) {
	three(t).takes(t, carry(0, 0, 1), "a", 0, "bcd", "efg", "h")
	three(t).takes(t, carry(0, 0, 3), "abc", 0, "d", "efg", "h")
	three(t).takes(t, carry(0, 1, 1), "e", 1, "abcd", "fg", "h")
	three(t).takes(t, carry(0, 1, 2), "ef", 1, "abcd", "g", "h")
	three(t).takes(t, carry(1, 0, 4), "othe", 0, "r")
}

func TestP1903TheRestInSeveralGoes(t *testing.T) {
	p := begun(t, send(0, "x"), send(0, "abcdefghij"), send(0, "y"))
	p.takes(t, carry(0, 1, 1), "a", 1, "x", "bcdefghij", "y")
	p.takes(t, carry(0, 1, 4), "bcde", 1, "x", "fghij", "y")
	p.refuses(t, carry(0, 1, 6), api.ErrRange, 0)
	p.takes(t, carry(0, 1, 4), "fghi", 1, "x", "j", "y")
	p.refuses(t, carry(0, 1, 2), api.ErrRange, 0)
	p.takes(t, carry(0, 1, 1), "j", -1, "x", "y")
	p.takes(t, carry(0, 1, 0), "y", -1, "x")
	p = begun(t, send(1, "abc"), carry(1, 0, 1), carry(1, 0, 1))
	p.takes(t, carry(1, 0, 0), "c", -1)
	// The greatest piece, byte by byte.
	p = begun(t, send(1, long(mostSent)))
	for i := range mostSent - 1 {
		if got, err := p.l.Carry(1, 0, 1); string(got) != "m" || err != nil || p.l.Half(1) != 0 {
			t.Fatalf("byte %d: %q, %v", i, got, err)
		}
	}
	has(t, "the last byte", p.l, 1, 0, "m")
	if got, err := p.l.Carry(1, 0, 1); string(got) != "m" || err != nil {
		t.Fatalf("the last byte: %q, %v", got, err)
	}
	has(t, "all has arrived", p.l, 1, -1)
}

func TestP1903NoPlace(t *testing.T) {
	p := three(t)
	for _, i := range outside(3) {
		for _, n := range []int{math.MinInt, -1, 0, 1, 9, math.MaxInt} {
			p.refuses(t, carry(0, i, n), api.ErrRange, 0)
		}
	}
	// A place of the other side alone.
	p.refuses(t, carry(1, 1, 0), api.ErrRange, 0)
	p.refuses(t, carry(1, 2, 1), api.ErrRange, 0)
	p.does(t, carry(1, 0, 0))
	p.refuses(t, carry(1, 0, 0), api.ErrRange, 0)
	// A place that was one.
	p.does(t, drop(0, 0))
	p.refuses(t, carry(0, 2, 0), api.ErrRange, 0)
	for _, i := range outside(mostUnder) {
		begun(t, full(0, mostUnder)...).refuses(t, carry(0, i, 0), api.ErrRange, 0)
	}
	last := begun(t, full(0, mostUnder)...)
	if a := last.does(t, carry(0, 255, 0)); a != (answer{bytes: "p255"}) {
		t.Errorf("the last of MaxFlight: %v", a)
	}
}

func TestP1903NoSuchLength(t *testing.T) {
	p := three(t)
	for i, length := range []int{4, 3, 1} {
		for _, n := range outside(length) {
			if n != length {
				p.refuses(t, carry(0, i, n), api.ErrRange, 0)
			}
		}
	}
	// Of a broken piece what is left counts, and not what it was.
	p.does(t, carry(0, 0, 1))
	for _, n := range []int{math.MinInt, -1, 4, 5, math.MaxInt} {
		p.refuses(t, carry(0, 0, n), api.ErrRange, 0)
	}
	p.takes(t, carry(0, 0, 3), "bcd", -1, "efg", "h")
	// So it is with a clipped one.
	p.does(t, clip(0, 0, 2))
	p.refuses(t, carry(0, 0, 3), api.ErrRange, 0)
	p.takes(t, carry(0, 0, 2), "ef", -1, "h")
}

func TestP1903AnotherIsBroken(t *testing.T) {
	for half := range 2 {
		p := three(t, carry(0, half, 1))
		for i := range 3 {
			if i == half {
				continue
			}
			for _, n := range []int{-1, 0, 1, 2, 9} {
				p.refuses(t, carry(0, i, n), api.ErrRange, 0)
			}
		}
		// The other side is not held up.
		p.takes(t, carry(1, 0, 0), "other", -1)
		has(t, "the broken one stays", p.l, 0, half, p.m.under(0)...)
		p.does(t, carry(0, half, 0))
		for range 2 {
			if a := p.does(t, carry(0, 0, 0)); a.code != api.OK {
				t.Errorf("behind the broken one: %v", a)
			}
		}
		has(t, "all has arrived", p.l, 0, -1)
	}
}

// When the broken piece is dropped the others may arrive.
func TestP1903TheBrokenOneIsDropped(t *testing.T) {
	p := three(t, carry(0, 1, 1))
	p.refuses(t, carry(0, 0, 0), api.ErrRange, 0)
	p.takes(t, drop(0, 1), "", -1, "abcd", "h")
	p.takes(t, carry(0, 1, 0), "h", -1, "abcd")
	p.takes(t, carry(0, 0, 2), "ab", 0, "cd")
}
