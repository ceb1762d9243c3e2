package link

import (
	"math"
	"testing"

	"courier/api"
)

// P1901: a Link that New did not make, and sides that there are not.

// everyCall are calls of each name: right ones, and those that are refused for another reason.
func everyCall(side int) []call {
	list := []call{send(side, "a"), raw(side, "a"), noise(side, "a"), carry(side, 0, 0), carry(side, 0, 1), drop(side, 0), double(side, 0), clip(side, 0, 1)}
	for _, text := range []string{"", long(mostNoisy + 1), long(mostSent + 1), "\x0B", "a\x0D\x1C"} {
		list = append(list, send(side, text), raw(side, text), noise(side, text))
	}
	for _, i := range outside(1) {
		list = append(list, carry(side, i, 0), drop(side, i), double(side, i), clip(side, i, 1))
		list = append(list, carry(side, 0, i), clip(side, 0, i))
	}
	return list
}

func TestP1901New(t *testing.T) {
	l := New()
	if l == nil {
		t.Fatal("nil")
	}
	for side := range 2 {
		has(t, "New", l, side, -1)
	}
	for side := range 2 {
		for _, c := range []call{carry(side, 0, 0), carry(side, 0, 1), drop(side, 0), double(side, 0), clip(side, 0, 1)} {
			begun(t).refuses(t, c, api.ErrRange, 0)
		}
	}
}

func TestP1901NotMade(t *testing.T) {
	for _, l := range []*Link{nil, {}, new(Link)} {
		for _, side := range append(wrongSides(), 0, 1) {
			for _, c := range everyCall(side) {
				got, err := c.on(l)
				answers(t, c, got, err, no(api.ErrZero))
			}
			has(t, "not made", l, side, -1)
		}
	}
	var plain Link
	if err := plain.Send(0, []byte("a")); err == nil || plain.Len(0) != 0 {
		t.Errorf("a plain Link took a piece: %v", err)
	}
}

func TestP1901NoSuchSide(t *testing.T) {
	p := begun(t, send(0, "abc"), send(1, "xyz"), send(1, "w"), carry(1, 0, 1))
	for _, side := range wrongSides() {
		for _, c := range everyCall(side) {
			p.refuses(t, c, api.ErrArg, 0)
		}
		has(t, "no such side", p.l, side, -1)
	}
}

// With MaxFlight pieces under way on both sides ErrArg comes first all the same.
func TestP1901NoSuchSideOfAFullLink(t *testing.T) {
	p := begun(t, append(full(0, mostUnder), full(1, mostUnder)...)...)
	for _, side := range []int{math.MinInt, -1, 2, math.MaxInt} {
		for _, c := range []call{send(side, "a"), raw(side, ""), noise(side, "\r"), double(side, 0), carry(side, 0, 0)} {
			p.refuses(t, c, api.ErrArg, 0)
		}
	}
}
