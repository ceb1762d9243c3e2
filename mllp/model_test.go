package mllp

import (
	"bytes"
	"math/rand"
	"testing"

	"courier/api"
)

// whole is a second reader: it has the whole stream at once, and looks in it for the next byte that frames.
func whole(stream []byte, max int) ([]api.Part, api.Deframing) {
	var told []api.Part
	lost := 0
	for {
		n := bytes.IndexByte(stream, 0x0B)
		if n < 0 {
			return told, api.Deframing{Garbage: lost + len(stream)}
		}
		if lost += n; lost > 0 {
			told = append(told, garbage(lost))
			lost = 0
		}
		stream = stream[n+1:]
		size := bytes.IndexAny(stream, "\x0B\x1C")
		switch {
		case size < 0:
			return told, api.Deframing{Inside: true, Held: min(max, len(stream)), Size: len(stream)}
		case stream[size] == 0x0B:
			lost = 1 + size
			stream = stream[size:]
		case size == len(stream)-1:
			return told, api.Deframing{Inside: true, Ending: true, Held: min(max, size), Size: size}
		case stream[size+1] == 0x0B:
			lost = 2 + size
			stream = stream[size+1:]
		case stream[size+1] == 0x0D && size > max:
			told = append(told, over(string(stream[:max]), size))
			stream = stream[size+2:]
		case stream[size+1] == 0x0D:
			told = append(told, message(string(stream[:size])))
			stream = stream[size+2:]
		default:
			lost = 3 + size
			stream = stream[size+2:]
		}
	}
}

// counted is how many bytes a stream must have had, by what was told of it and where the Deframer stands.
func counted(told []api.Part, at api.Deframing) int {
	n := at.Garbage
	for _, p := range told {
		n += p.N
		if p.Kind != api.PartGarbage {
			n += 3
		}
	}
	if at.Inside {
		n += 1 + at.Size
	}
	if at.Ending {
		n++
	}
	return n
}

// agree holds what was told of a stream, in whatever pieces, against the second reader and the count.
func agree(t *testing.T, max int, stream []byte, told []api.Part, at api.Deframing) {
	t.Helper()
	want, look := whole(stream, max)
	if !alike(told, want) || at != look {
		t.Fatalf("Max %d, %q: %s and %+v, want %s and %+v", max, stream, show(told), at, show(want), look)
	}
	if n := counted(told, at); n != len(stream) {
		t.Fatalf("Max %d, %q: %d bytes counted", max, stream, n)
	}
}

// every calls do with each stream of up to so many bytes, of those that frame and one that does not.
func every(most int, do func(stream []byte)) {
	streams := [][]byte{{}}
	for n := 0; n <= most; n++ {
		var next [][]byte
		for _, s := range streams {
			do(s)
			for _, b := range []byte("\x0B\x1C\ra") {
				next = append(next, append(bytes.Clone(s), b))
			}
		}
		streams = next
	}
}

func TestP403P408ShortStreams(t *testing.T) {
	every(7, func(stream []byte) {
		for _, max := range []int{1, 2, 8} {
			d := made(t, max)
			agree(t, max, stream, d.Feed(stream), d.Look())
		}
	})
}

func TestP406EveryCut(t *testing.T) {
	every(5, func(stream []byte) {
		for cuts := range 1 << max(0, len(stream)-1) {
			d := made(t, 2)
			var told []api.Part
			from := 0
			for to := 1; to <= len(stream); to++ {
				if to == len(stream) || cuts>>(to-1)&1 == 1 {
					told = append(told, d.Feed(stream[from:to])...)
					from = to
				}
			}
			agree(t, 2, stream, told, d.Look())
		}
	})
}

// noise makes bytes in which those that frame come often, or seldom.
func noise(r *rand.Rand, n int) []byte {
	few := r.Intn(2) == 0
	p := make([]byte, n)
	for i := range p {
		switch k := r.Intn(8); {
		case k < 3 && (!few || r.Intn(40) == 0):
			p[i] = "\x0B\x1C\r"[k]
		case k == 3:
			p[i] = byte(r.Intn(256))
		default:
			p[i] = byte('a' + r.Intn(26))
		}
	}
	return p
}

// payload makes one that Frame takes.
func payload(r *rand.Rand, n int) []byte {
	p := noise(r, n)
	for i, b := range p {
		if b == 0x0B || b == 0x1C {
			p[i] = '\r'
		}
	}
	return p
}

// mixed makes a stream of noise, whole frames, and frames that are cut.
func mixed(r *rand.Rand) []byte {
	var stream []byte
	for range r.Intn(12) {
		f, err := Frame(payload(r, 1+r.Intn(40)))
		if err != nil {
			panic(err)
		}
		switch r.Intn(4) {
		case 0:
			stream = append(stream, noise(r, r.Intn(30))...)
		case 1:
			stream = append(stream, f[:r.Intn(len(f))]...)
		default:
			stream = append(stream, f...)
		}
	}
	return stream
}

// feed feeds a stream in pieces of any length, empty ones too.
func feed(r *rand.Rand, d *Deframer, stream []byte) []api.Part {
	var told []api.Part
	longest := 1 + r.Intn(60)
	for len(stream) > 0 {
		n := min(len(stream), r.Intn(longest+1))
		piece := bytes.Clone(stream[:n])
		told = append(told, d.Feed(piece)...)
		for i := range piece {
			piece[i] = 0x0B
		}
		stream = stream[n:]
	}
	return append(told, d.Feed(nil)...)
}

func TestP406P408AnyPieces(t *testing.T) {
	r := rand.New(rand.NewSource(406))
	for range 4000 {
		max := 1 + r.Intn(45)
		stream := mixed(r)
		d, one := made(t, max), made(t, max)
		told, at := feed(r, d, stream), d.Look()
		agree(t, max, stream, told, at)
		if got := one.Feed(stream); !alike(got, told) || one.Look() != at {
			t.Fatalf("Max %d, %q: one piece tells %s, others %s", max, stream, show(got), show(told))
		}
	}
}

func TestP406LongPieces(t *testing.T) {
	r := rand.New(rand.NewSource(4061))
	for range 40 {
		stream := bytes.Join([][]byte{noise(r, r.Intn(2000)), mixed(r), noise(r, r.Intn(9000)), mixed(r)}, nil)
		for _, n := range []int{1, 255, 256, 257, 4096, len(stream) + 1} {
			d := made(t, 300)
			var told []api.Part
			for from := 0; from < len(stream); from += n {
				told = append(told, d.Feed(stream[from:min(from+n, len(stream))])...)
			}
			agree(t, 300, stream, told, d.Look())
		}
	}
}

func TestP407ThereAndBack(t *testing.T) {
	r := rand.New(rand.NewSource(407))
	for range 4000 {
		max := 1 + r.Intn(50)
		p := payload(r, 1+r.Intn(max))
		f, err := Frame(p)
		if err != nil {
			t.Fatalf("Frame(%q): %v", p, err)
		}
		d := made(t, max)
		feed(r, d, mixed(r))
		ahead := d.Look()
		told := feed(r, d, f)
		if len(told) == 0 || !alike(told[len(told)-1:], []api.Part{message(string(p))}) {
			t.Fatalf("behind %+v: %s told of %q", ahead, show(told), f)
		}
		if ahead == (api.Deframing{}) && len(told) != 1 {
			t.Fatalf("outside, no garbage: %s told of %q", show(told), f)
		}
		if d.Look() != (api.Deframing{}) {
			t.Fatalf("Look behind %q: %+v", f, d.Look())
		}
	}
}

func TestP407LongestMessage(t *testing.T) {
	r := rand.New(rand.NewSource(4071))
	for _, n := range []int{1, api.MaxMessage - 1, api.MaxMessage} {
		p := payload(r, n)
		f, err := Frame(p)
		if err != nil || len(f) != n+3 {
			t.Fatalf("Frame of %d bytes: %d, %v", n, len(f), err)
		}
		for _, ahead := range []string{"", "x", "\x0B", "\x0Bab", "\x0Bab\x1C", "\x0Bab\x1Cx"} {
			d := made(t, api.MaxMessage)
			d.Feed([]byte(ahead))
			told := d.Feed(f)
			if len(told) == 0 || !alike(told[len(told)-1:], []api.Part{message(string(p))}) || d.Look() != (api.Deframing{}) {
				t.Errorf("%d bytes behind %q: %d parts", n, ahead, len(told))
			}
			if ahead == "" && len(told) != 1 {
				t.Errorf("%d bytes: %d parts", n, len(told))
			}
		}
	}
}

// What Drop leaves is a stream that begins anew.
func TestP405P408DropAnywhere(t *testing.T) {
	r := rand.New(rand.NewSource(405))
	for range 2000 {
		max := 1 + r.Intn(45)
		d := made(t, max)
		for range 3 {
			feed(r, d, mixed(r))
			d.Drop()
			if d.Look() != (api.Deframing{}) {
				t.Fatalf("Look behind Drop: %+v", d.Look())
			}
			stream := mixed(r)
			agree(t, max, stream, feed(r, d, stream), d.Look())
			d.Drop()
		}
	}
}
