package link

import (
	"testing"

	"courier/api"
)

// P1902: Send, Raw and Noise.

// puts are the calls that put a text under way, with the most bytes that they take.
func puts(side int, text string) map[call]int {
	return map[call]int{send(side, text): mostSent, raw(side, text): mostSent, noise(side, text): mostNoisy}
}

func TestP1902Lengths(t *testing.T) {
	for side := range 2 {
		for _, n := range []int{0, 1, 2, 63, 64, 65, 128, 8192, 8194, 8195, 8196, 8197, 1 << 16, 1 << 20} {
			for c, most := range puts(side, long(n)) {
				p := begun(t, send(side, "first"))
				if n == 0 || n > most {
					p.refuses(t, c, api.ErrLong, 0)
				} else {
					p.takes(t, c, "", -1, "first", long(n))
				}
			}
		}
	}
}

func TestP1902NilIsEmpty(t *testing.T) {
	l := New()
	for _, none := range [][]byte{nil, {}, make([]byte, 0, 9)} {
		refused(t, "Send", l.Send(0, none), api.ErrLong, 0)
		refused(t, "Raw", l.Raw(0, none), api.ErrLong, 0)
		refused(t, "Noise", l.Noise(0, none), api.ErrLong, 0)
	}
	has(t, "no byte", l, 0, -1)
}

// Every byte may be sent; all but three may be noise.
func TestP1902EveryByte(t *testing.T) {
	for b := range 256 {
		one := string([]byte{byte(b)})
		for c := range puts(1, one) {
			p := begun(t)
			if c.name == "Noise" && (b == 0x0B || b == 0x0D || b == 0x1C) {
				p.refuses(t, c, api.ErrFraming, 0)
			} else {
				p.takes(t, c, "", -1, one)
				p.takes(t, carry(1, 0, 0), one, -1)
			}
		}
	}
}

func TestP1902WhereNoiseFrames(t *testing.T) {
	p := begun(t, send(0, "a"))
	for _, b := range []string{"\x0B", "\x0D", "\x1C"} {
		for _, n := range []int{1, 2, 3, 63, 64} {
			for at := range n {
				text := long(at) + b + long(n-at-1)
				p.refuses(t, noise(0, text), api.ErrFraming, at)
				for _, other := range []string{"\x0B", "\x0D", "\x1C"} {
					if at+1 < n {
						p.refuses(t, noise(0, text[:n-1]+other), api.ErrFraming, at)
					}
				}
			}
		}
	}
	// Bytes that are no text: places are those of bytes.
	p.refuses(t, noise(0, "\xC3\xA4\xFF\x80\x1C"), api.ErrFraming, 4)
	p.takes(t, noise(0, "\xC3\xA4\xFF\x80\x00\x0A\x0C\x1B\x1D\x8B\x8D\x9C"), "", -1, "a", "\xC3\xA4\xFF\x80\x00\x0A\x0C\x1B\x1D\x8B\x8D\x9C")
}

func TestP1902Room(t *testing.T) {
	for side := range 2 {
		for c := range puts(side, "last") {
			p := begun(t, full(side, mostUnder-1)...)
			if a := p.does(t, c); a != (answer{}) || p.l.Len(side) != mostUnder {
				t.Fatalf("%v with one place left: %v", c, a)
			}
			p.refuses(t, c, api.ErrFull, 0)
			// The other side has its own room.
			other := c
			other.side = 1 - side
			p.takes(t, other, "", -1, "last")
			p.does(t, carry(side, 7, 0))
			if a := p.does(t, c); a != (answer{}) {
				t.Fatalf("%v behind a Carry: %v", c, a)
			}
			p.does(t, drop(side, 255))
			if a := p.does(t, c); a != (answer{}) {
				t.Fatalf("%v behind a Drop: %v", c, a)
			}
			// A broken piece is under way still.
			p.does(t, carry(side, 0, 1))
			p.refuses(t, c, api.ErrFull, 0)
		}
	}
}

// Of several reasons the one that is named first is told.
func TestP1902SeveralReasons(t *testing.T) {
	filled := begun(t, full(0, mostUnder)...)
	for _, p := range []*pair{begun(t), filled} {
		for _, c := range []call{send(0, ""), raw(0, ""), noise(0, ""), send(0, long(8196)), raw(0, long(8196)), noise(0, long(65))} {
			p.refuses(t, c, api.ErrLong, 0)
		}
		p.refuses(t, noise(0, "\x0B"+long(64)), api.ErrLong, 0)
		p.refuses(t, noise(0, long(64)+"\x0D"), api.ErrLong, 0)
		p.refuses(t, noise(0, long(63)+"\x1C"), api.ErrFraming, 63)
		p.refuses(t, noise(0, "a\x0D"), api.ErrFraming, 1)
	}
	filled.refuses(t, send(0, "\x0B"), api.ErrFull, 0)
	filled.refuses(t, raw(0, "\x0B"), api.ErrFull, 0)
	filled.refuses(t, noise(0, "a"), api.ErrFull, 0)
}

func TestP1902InOrder(t *testing.T) {
	p := begun(t)
	p.takes(t, send(1, "one"), "", -1, "one")
	p.takes(t, noise(1, "two"), "", -1, "one", "two")
	p.takes(t, raw(1, "\x0B\x1C\r"), "", -1, "one", "two", "\x0B\x1C\r")
	p.takes(t, send(1, "one"), "", -1, "one", "two", "\x0B\x1C\r", "one")
}

// What is put under way while a piece is broken stands behind it, and breaks nothing.
func TestP1902BehindABrokenOne(t *testing.T) {
	for c := range puts(0, "new") {
		p := begun(t, send(0, "abc"), carry(0, 0, 1))
		p.takes(t, c, "", 0, "bc", "new")
		p.refuses(t, carry(0, 1, 0), api.ErrRange, 0)
		p.takes(t, carry(0, 0, 2), "bc", -1, "new")
		p.takes(t, carry(0, 0, 0), "new", -1)
	}
}
