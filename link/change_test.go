package link

import (
	"math"
	"testing"

	"courier/api"
)

// P1904: Drop, Double and Clip.

// halfway has five pieces, of which the third one is broken.
func halfway(t *testing.T) *pair {
	t.Helper()
	return begun(t, send(0, "aaa"), send(0, "bb"), send(0, "xyz"), send(0, "c"), send(0, "dd"), send(1, "other"), carry(0, 2, 1))
}

func TestP1904Drop(t *testing.T) {
	three(t).takes(t, drop(0, 0), "", -1, "efg", "h")
	three(t).takes(t, drop(0, 1), "", -1, "abcd", "h")
	three(t).takes(t, drop(0, 2), "", -1, "abcd", "efg")
	p := three(t)
	p.takes(t, drop(1, 0), "", -1)
	p.refuses(t, drop(1, 0), api.ErrRange, 0)
	for _, under := range [][]string{{"efg", "h"}, {"h"}, {}} {
		p.takes(t, drop(0, 0), "", -1, under...)
	}
	p.refuses(t, drop(0, 0), api.ErrRange, 0)
	p.takes(t, send(0, "new"), "", -1, "new")
}

func TestP1904DropAroundTheBrokenOne(t *testing.T) {
	halfway(t).takes(t, drop(0, 0), "", 1, "bb", "yz", "c", "dd")
	halfway(t).takes(t, drop(0, 1), "", 1, "aaa", "yz", "c", "dd")
	halfway(t).takes(t, drop(0, 2), "", -1, "aaa", "bb", "c", "dd")
	halfway(t).takes(t, drop(0, 3), "", 2, "aaa", "bb", "yz", "dd")
	halfway(t).takes(t, drop(0, 4), "", 2, "aaa", "bb", "yz", "c")
	p := halfway(t)
	p.takes(t, drop(0, 0), "", 1, "bb", "yz", "c", "dd")
	p.takes(t, drop(0, 0), "", 0, "yz", "c", "dd")
	p.takes(t, drop(0, 1), "", 0, "yz", "dd")
	p.refuses(t, carry(0, 1, 0), api.ErrRange, 0)
	p.takes(t, drop(0, 0), "", -1, "dd")
	p.takes(t, carry(0, 0, 1), "d", 0, "d")
	p.takes(t, drop(0, 0), "", -1)
}

func TestP1904NoPlace(t *testing.T) {
	for _, p := range []*pair{three(t), three(t, carry(0, 1, 1)), begun(t), begun(t, full(0, mostUnder)...)} {
		count := p.l.Len(0)
		for _, i := range outside(count) {
			if i >= 0 && i < count {
				continue
			}
			p.refuses(t, drop(0, i), api.ErrRange, 0)
			p.refuses(t, double(0, i), api.ErrRange, 0)
			for _, n := range []int{math.MinInt, -1, 0, 1, 2, math.MaxInt} {
				p.refuses(t, clip(0, i, n), api.ErrRange, 0)
			}
		}
	}
	// Places of the other side alone.
	p := three(t)
	for _, c := range []call{drop(1, 1), double(1, 2), clip(1, 1, 1)} {
		p.refuses(t, c, api.ErrRange, 0)
	}
}

func TestP1904Double(t *testing.T) {
	three(t).takes(t, double(0, 0), "", -1, "abcd", "efg", "h", "abcd")
	three(t).takes(t, double(0, 1), "", -1, "abcd", "efg", "h", "efg")
	three(t).takes(t, double(0, 2), "", -1, "abcd", "efg", "h", "h")
	p := three(t, double(0, 2))
	p.takes(t, double(0, 3), "", -1, "abcd", "efg", "h", "h", "h")
	p.takes(t, double(1, 0), "", -1, "other", "other")
}

// The copy is of the piece as it is now, and goes its own way from then on.
func TestP1904ACopyIsAPieceByItself(t *testing.T) {
	p := begun(t, send(0, "abcdef"), clip(0, 0, 4), double(0, 0))
	has(t, "of a clipped one", p.l, 0, -1, "abcd", "abcd")
	p.takes(t, clip(0, 0, 3), "", -1, "abc", "abcd")
	p.takes(t, clip(0, 1, 2), "", -1, "abc", "ab")
	p.takes(t, carry(0, 0, 1), "a", 0, "bc", "ab")
	p.takes(t, double(0, 1), "", 0, "bc", "ab", "ab")
	p.takes(t, drop(0, 1), "", 0, "bc", "ab")
	p.takes(t, carry(0, 0, 0), "bc", -1, "ab")
	p.takes(t, carry(0, 0, 1), "a", 0, "b")
	p = begun(t, send(1, long(mostSent)), double(1, 0))
	has(t, "of the greatest", p.l, 1, -1, long(mostSent), long(mostSent))
}

func TestP1904DoubleAroundTheBrokenOne(t *testing.T) {
	halfway(t).takes(t, double(0, 0), "", 2, "aaa", "bb", "yz", "c", "dd", "aaa")
	halfway(t).takes(t, double(0, 1), "", 2, "aaa", "bb", "yz", "c", "dd", "bb")
	halfway(t).refuses(t, double(0, 2), api.ErrRange, 0)
	halfway(t).takes(t, double(0, 3), "", 2, "aaa", "bb", "yz", "c", "dd", "c")
	halfway(t).takes(t, double(0, 4), "", 2, "aaa", "bb", "yz", "c", "dd", "dd")
	// Clipped, it is broken still.
	p := halfway(t)
	p.does(t, clip(0, 2, 1))
	p.refuses(t, double(0, 2), api.ErrRange, 0)
	p.does(t, drop(0, 0))
	p.refuses(t, double(0, 1), api.ErrRange, 0)
	p.takes(t, double(0, 2), "", 1, "bb", "y", "c", "dd", "c")
}

func TestP1904DoubleWithoutRoom(t *testing.T) {
	for side := range 2 {
		p := begun(t, full(side, mostUnder-1)...)
		if a := p.does(t, double(side, 254)); a != (answer{}) || p.l.Len(side) != mostUnder {
			t.Fatalf("with one place left: %v", a)
		}
		for _, i := range []int{0, 7, 254, 255} {
			p.refuses(t, double(side, i), api.ErrFull, 0)
		}
		// What is out of range is told ahead of that.
		p.refuses(t, double(side, 256), api.ErrRange, 0)
		p.refuses(t, double(side, -1), api.ErrRange, 0)
		p.does(t, carry(side, 9, 1))
		p.refuses(t, double(side, 9), api.ErrRange, 0)
		p.refuses(t, double(side, 8), api.ErrFull, 0)
		// The other side has its own room.
		p.does(t, send(1-side, "z"))
		p.takes(t, double(1-side, 0), "", -1, "z", "z")
		p.does(t, drop(side, 9))
		if a := p.does(t, double(side, 9)); a != (answer{}) {
			t.Fatalf("behind a Drop: %v", a)
		}
	}
}

func TestP1904Clip(t *testing.T) {
	three(t).takes(t, clip(0, 0, 1), "", -1, "a", "efg", "h")
	three(t).takes(t, clip(0, 0, 3), "", -1, "abc", "efg", "h")
	three(t).takes(t, clip(0, 0, 4), "", -1, "abcd", "efg", "h")
	three(t).takes(t, clip(0, 1, 2), "", -1, "abcd", "ef", "h")
	three(t).takes(t, clip(0, 2, 1), "", -1, "abcd", "efg", "h")
	three(t).takes(t, clip(1, 0, 3), "", -1, "oth")
	p := three(t)
	p.takes(t, clip(0, 0, 3), "", -1, "abc", "efg", "h")
	p.takes(t, clip(0, 0, 2), "", -1, "ab", "efg", "h")
	p.refuses(t, clip(0, 0, 3), api.ErrRange, 0)
	p.takes(t, carry(0, 0, 0), "ab", -1, "efg", "h")
}

func TestP1904ClipNoSuchLength(t *testing.T) {
	p := three(t)
	for i, length := range []int{4, 3, 1} {
		for _, n := range append(outside(length), 0) {
			if n != length {
				p.refuses(t, clip(0, i, n), api.ErrRange, 0)
			}
		}
	}
	p.does(t, carry(0, 0, 1))
	for _, n := range []int{math.MinInt, -1, 0, 4, 5, math.MaxInt} {
		p.refuses(t, clip(0, 0, n), api.ErrRange, 0)
	}
	// At the greatest length.
	p = begun(t, send(1, long(mostSent)))
	p.refuses(t, clip(1, 0, mostSent+1), api.ErrRange, 0)
	p.takes(t, clip(1, 0, mostSent), "", -1, long(mostSent))
	p.takes(t, clip(1, 0, mostSent-1), "", -1, long(mostSent-1))
	p.refuses(t, clip(1, 0, mostSent), api.ErrRange, 0)
}

// A piece is broken behind a Clip just if it was ahead of it.
func TestP1904ClipAroundTheBrokenOne(t *testing.T) {
	halfway(t).takes(t, clip(0, 0, 2), "", 2, "aa", "bb", "yz", "c", "dd")
	halfway(t).takes(t, clip(0, 4, 1), "", 2, "aaa", "bb", "yz", "c", "d")
	halfway(t).takes(t, clip(0, 2, 2), "", 2, "aaa", "bb", "yz", "c", "dd")
	p := halfway(t)
	p.takes(t, clip(0, 2, 1), "", 2, "aaa", "bb", "y", "c", "dd")
	p.refuses(t, carry(0, 0, 0), api.ErrRange, 0)
	p.takes(t, carry(0, 2, 1), "y", -1, "aaa", "bb", "c", "dd")
	// What was whole may begin to arrive behind it.
	p.takes(t, clip(0, 0, 2), "", -1, "aa", "bb", "c", "dd")
	p.takes(t, carry(0, 0, 1), "a", 0, "a", "bb", "c", "dd")
}
