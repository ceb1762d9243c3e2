package link

import (
	"bytes"
	"math/rand"
	"testing"
)

// P1908; what holds everywhere: memory, two objects, no panic.

// spoil writes over a byte string and the room behind it.
func spoil(b []byte) {
	b = b[:cap(b)]
	for i := range b {
		b[i] = '!'
	}
}

// roomy gives a byte string with room behind it.
func roomy(text string) []byte { return append(make([]byte, 0, len(text)+40), text...) }

func TestP1908WhatIsHandedInIsNotKept(t *testing.T) {
	l := New()
	for side := range 2 {
		for _, put := range []func(int, []byte) error{l.Send, l.Raw, l.Noise} {
			b := roomy("abc")
			if err := put(side, b); err != nil {
				t.Fatal(err)
			}
			spoil(b)
		}
		has(t, "written over", l, side, -1, "abc", "abc", "abc")
	}
	// One byte string, handed in again and again.
	b := roomy("xyz")
	l = New()
	for i := range 3 {
		b[0] = byte('0' + i)
		if err := l.Send(0, b[:i+1]); err != nil {
			t.Fatal(err)
		}
	}
	has(t, "one byte string", l, 0, -1, "0", "1y", "2yz")
}

func TestP1908WhatIsHandedInStays(t *testing.T) {
	whole := bytes.Repeat([]byte("abcd"), 8)
	l := New()
	for _, put := range []func(int, []byte) error{l.Send, l.Raw, l.Noise} {
		for _, p := range [][]byte{whole[4:9], whole[:0], whole[8:9]} {
			put(0, p)
		}
	}
	for i := range l.Len(0) {
		l.Double(0, i)
		l.Clip(0, i, 1)
		b, _ := l.Carry(0, i, 0)
		spoil(b)
		b, _ = l.Carry(0, i, 1)
		spoil(b)
		l.Drop(0, i)
	}
	if !bytes.Equal(whole, bytes.Repeat([]byte("abcd"), 8)) {
		t.Errorf("what was handed in is %q now", whole)
	}
	bad := []byte("a\x0Bb")
	if l.Noise(0, bad[:2]); string(bad) != "a\x0Bb" {
		t.Errorf("what was refused is %q now", bad)
	}
}

// carries makes a call on both, and writes over what the Link answers.
func carries(t *testing.T, p *pair, c call) {
	t.Helper()
	got, err := c.on(p.l)
	answers(t, c, got, err, p.m.play(c))
	spoil(got)
	tells(t, c, p.l, p.m)
}

func TestP1908WhatCarryAnswers(t *testing.T) {
	p := begun(t, send(0, "abcdefgh"), double(0, 0), double(0, 0), send(1, "abcdefgh"))
	carries(t, p, carry(0, 1, 3))
	carries(t, p, carry(0, 1, 1))
	carries(t, p, carry(0, 1, 2))
	carries(t, p, clip(0, 1, 1))
	carries(t, p, carry(0, 1, 0))
	carries(t, p, clip(0, 0, 5))
	carries(t, p, double(0, 0))
	carries(t, p, carry(0, 0, 0))
	carries(t, p, carry(0, 1, 0))
	carries(t, p, carry(0, 0, 8))
}

// Two answers of Carry share nothing, though they are of one piece.
func TestP1908AnswersShareNothing(t *testing.T) {
	for first := range 2 {
		p := begun(t, send(0, "abcdef"))
		var got [3][]byte
		for i := range got {
			b, err := p.l.Carry(0, 0, 2)
			if err != nil {
				t.Fatal(err)
			}
			got[i] = b
		}
		spoil(got[first])
		for i, want := range []string{"ab", "cd", "ef"} {
			if i != first && string(got[i]) != want {
				t.Errorf("the answer %d is %q behind a change of %d", i, got[i], first)
			}
		}
	}
}

// An answer stays what it was, whatever becomes of the Link.
func TestP1908AnswersStay(t *testing.T) {
	p := begun(t, send(0, "abcdef"), send(0, "xyz"), send(0, "w"))
	flight := p.l.Flight(0)
	head, err := p.l.Carry(0, 0, 3)
	if err != nil {
		t.Fatal(err)
	}
	rest := p.l.Flight(0)
	for _, c := range []call{clip(0, 0, 2), drop(0, 1), carry(0, 0, 1), send(0, "new"), double(0, 1), carry(0, 0, 0), drop(0, 0), drop(0, 0)} {
		c.on(p.l)
	}
	for i, want := range []string{"abcdef", "xyz", "w"} {
		if string(flight[i]) != want {
			t.Errorf("Flight's piece %d is %q", i, flight[i])
		}
	}
	for i, want := range []string{"def", "xyz", "w"} {
		if string(rest[i]) != want {
			t.Errorf("Flight's piece %d behind a Carry is %q", i, rest[i])
		}
	}
	if string(head) != "abc" {
		t.Errorf("what Carry answered is %q", head)
	}
}

func TestP1908WhatFlightAnswers(t *testing.T) {
	p := begun(t, send(0, "abcdef"), double(0, 0), send(0, "xyz"), clip(0, 0, 4), carry(0, 1, 2), send(1, "abcdef"))
	for i := range 3 {
		one, other := p.l.Flight(0), p.l.Flight(0)
		spoil(one[i])
		tells(t, "a piece is written over", p.l, p.m)
		for j, want := range p.m.under(0) {
			if string(other[j]) != want || j != i && string(one[j]) != want {
				t.Fatalf("the piece %d has changed with %d", j, i)
			}
		}
		one = one[:cap(one)]
		for j := range one {
			one[j] = nil
		}
		tells(t, "the list is written over", p.l, p.m)
		for j, want := range p.m.under(0) {
			if string(other[j]) != want {
				t.Fatalf("another list has changed at %d", j)
			}
		}
		_ = append(other[:0], []byte("more"), []byte("more"))
		tells(t, "the list is appended to", p.l, p.m)
	}
}

// The room behind a piece is not that of the rest, of a copy or of what was clipped off.
func TestP1908NoRoomBehindAPiece(t *testing.T) {
	p := begun(t, send(0, "abcdef"), double(0, 0), clip(0, 1, 2), double(0, 1), carry(0, 0, 3))
	for i, b := range p.l.Flight(0) {
		_ = append(b, "!!!!"...)
		tells(t, i, p.l, p.m)
	}
	b, err := p.l.Carry(0, 0, 1)
	if err != nil {
		t.Fatal(err)
	}
	p.m.play(carry(0, 0, 1))
	_ = append(b, "!!!!"...)
	tells(t, "Carry", p.l, p.m)
}

func TestP1908RunsWithSpoiltAnswers(t *testing.T) {
	g := rand.New(rand.NewSource(1908))
	for range 100 {
		p := begun(t)
		for range 100 {
			carries(t, p, anyCall(g, p.m, 40))
			for side := range 2 {
				for _, b := range p.l.Flight(side) {
					spoil(b)
				}
			}
		}
	}
}

func TestP1908LinksInTurns(t *testing.T) {
	g := rand.New(rand.NewSource(1910))
	var pairs []*pair
	for range 3 {
		pairs = append(pairs, begun(t))
	}
	for range 1500 {
		p := oneOf(g, pairs)
		p.does(t, anyCall(g, p.m, 40))
		for _, q := range pairs {
			tells(t, "in turns", q.l, q.m)
		}
	}
}

// A copied Link goes its own way, and so does the one that it was copied from.
func TestP1908ACopiedLink(t *testing.T) {
	g := rand.New(rand.NewSource(1911))
	for range 60 {
		p := begun(t)
		for range g.Intn(30) {
			p.does(t, anyCall(g, p.m, 50))
		}
		link := *p.l
		q := &pair{&link, p.m.copied()}
		for range 40 {
			one := oneOf(g, []*pair{p, q})
			carries(t, one, anyCall(g, one.m, 40))
			tells(t, "the one", p.l, p.m)
			tells(t, "its copy", q.l, q.m)
		}
	}
}
