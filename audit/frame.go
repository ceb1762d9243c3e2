package audit

import (
	"bytes"

	"courier/api"
	"courier/mllp"
)

// The bytes that a frame has around a message, as far as a half one has them.
const (
	frameBegin = 0x0B
	frameEnd   = 0x1C
)

// frame is where a deframer stands.
type frame struct {
	inside  bool
	ending  bool
	kept    []byte // never written over
	size    int
	garbage int
}

// short gives the least stream that leads there, but for what is only counted.
func (f frame) short() []byte {
	if !f.inside {
		return nil
	}
	b := append([]byte{frameBegin}, f.kept...)
	if f.size > len(f.kept) {
		// A byte more than is kept tells that it is too long.
		b = append(b, ' ')
	}
	if f.ending {
		b = append(b, frameEnd)
	}
	return b
}

// fed gives where it stands behind some bytes, and what they make whole.
func (f frame) fed(p []byte) (frame, []api.Part) {
	// Layer 4 takes this greatest size.
	d, _ := mllp.New(api.MaxMessage)
	stream := f.short()
	d.Feed(stream)
	left := f.size + f.garbage - d.Look().Size
	parts := d.Feed(p)
	look := d.Look()
	next := frame{inside: look.Inside, ending: look.Ending, size: look.Size, garbage: look.Garbage}
	// What the short stream has left out counts on, till a frame begins or ends.
	isOn := len(parts) == 0 && bytes.IndexByte(p, frameBegin) < 0
	switch {
	case isOn && look.Inside:
		next.size += left
	case isOn:
		next.garbage += left
	}
	if look.Inside {
		stream = append(stream, p...)
		begun := stream[bytes.LastIndexByte(stream, frameBegin)+1:]
		next.kept = bytes.Clone(begun[:look.Held])
	}
	return next, parts
}
