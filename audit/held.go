package audit

import (
	"courier/api"
	"courier/mllp"
)

// tell makes an output, which waits for every record that was written ahead of it.
func (s *endpoint) tell(x api.Seen) {
	x.Side = s.side
	s.held = append(s.held, api.Held{Seen: x, After: s.written})
}

// send makes the output of a frame, if there is room for it. An empty text is none that is sent.
func (s *endpoint) send(text []byte) {
	// Layer 4 refuses no other text that a side has made or kept.
	if framed, err := mllp.Frame(text); err == nil && len(s.held) < api.MaxHeld {
		s.tell(api.Seen{Kind: api.SeenOut, Text: framed})
	}
}

// leave gives up, in order, the outputs whose records are durable.
func (s *endpoint) leave() []api.Seen {
	var left []api.Seen
	for len(s.held) > 0 && s.held[0].After <= s.safe {
		x := s.held[0].Seen
		if x.Kind == api.SeenDeliver {
			s.delivered = append(s.delivered, x.Control)
		}
		left = append(left, x)
		s.held = s.held[1:]
	}
	return left
}
