package mllp

import "courier/api"

// most is where a count of bytes stays.
const most = 1 << 53

// nothing is the kind of a part that is not told.
const nothing = 0

// reader is what a Deframer knows of its stream.
type reader struct {
	max  int
	take func(b byte) api.Part // where it is: what takes the next byte
	kept []byte
	now  api.Deframing // but Held, which is told by kept
}

// forget makes it as it was at first: outside, no garbage.
func (r *reader) forget() {
	r.now.Garbage = 0
	r.leave()
}

func (r *reader) look() api.Deframing {
	now := r.now
	now.Held = len(r.kept)
	return now
}

// outside takes a byte where no frame is.
func (r *reader) outside(b byte) api.Part {
	if b == head {
		return r.enter()
	}
	r.waste(1)
	return api.Part{}
}

// inside takes a byte of a frame that is not ending.
func (r *reader) inside(b byte) api.Part {
	switch b {
	case head:
		r.waste(1 + r.now.Size)
		return r.enter()
	case tail:
		r.now.Ending = true
		r.take = r.ending
	default:
		r.keep(b)
	}
	return api.Part{}
}

// ending takes the byte behind the first of the two that end a frame.
func (r *reader) ending(b byte) api.Part {
	switch b {
	case last:
		return r.whole()
	case head:
		r.waste(2 + r.now.Size)
		return r.enter()
	}
	r.waste(3 + r.now.Size)
	r.leave()
	return api.Part{}
}

// enter begins a frame, and tells the garbage ahead of it.
func (r *reader) enter() api.Part {
	part := api.Part{Kind: api.PartGarbage, N: r.now.Garbage}
	if part.N == 0 {
		part.Kind = nothing
	}
	r.now = api.Deframing{Inside: true}
	r.kept = nil
	r.take = r.inside
	return part
}

// leave ends a frame; the garbage stays until the next one begins.
func (r *reader) leave() {
	r.now = api.Deframing{Garbage: r.now.Garbage}
	r.kept = nil
	r.take = r.outside
}

// whole tells the message of the frame that is complete.
func (r *reader) whole() api.Part {
	part := api.Part{Kind: api.PartMessage, Text: text(r.kept), N: r.now.Size}
	if part.N > r.max {
		part.Kind = api.PartOver
	}
	r.leave()
	return part
}

func (r *reader) keep(b byte) {
	r.now.Size = more(r.now.Size, 1)
	if len(r.kept) < r.max {
		r.kept = append(r.kept, b)
	}
}

func (r *reader) waste(n int) { r.now.Garbage = more(r.now.Garbage, n) }

// more counts on, up to where a count stays.
func more(count, n int) int { return min(count+n, most) }

// text copies what is handed out: it is then no longer than its bytes, however much room the kept ones took.
func text(kept []byte) []byte {
	if len(kept) == 0 {
		return nil
	}
	p := make([]byte, len(kept))
	copy(p, kept)
	return p
}
