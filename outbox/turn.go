package outbox

import "courier/api"

// turn is a message while acts are done to it.
type turn struct {
	api.Sent
	expect int // the number that the partner told; 0: none
	over   bool
}

// effect is what an act does to its message, beside becoming its deed.
type effect struct {
	kind int
	do   func(t *turn)
}

// effects has the acts that change a message; the others are for those above alone.
func effects() [3]effect {
	return [3]effect{
		{api.ActNote, func(t *turn) { t.Noted = true }},
		{api.ActNumber, func(t *turn) { t.Number = t.expect }},
		{api.ActFinal, func(t *turn) { t.over = true }},
	}
}

func (t *turn) take(a api.Act) {
	for _, e := range effects() {
		if e.kind == a.Kind {
			e.do(t)
		}
	}
}

// do does what layer 11 has told of a message.
func (b *Box) do(t turn, acts []api.Act, err error) ([]api.Deed, error) {
	if err != nil {
		// Layer 11 takes every message that a box holds; should it not, the message stands wrong.
		return nil, fault(0, api.ErrState)
	}
	deeds := make([]api.Deed, len(acts))
	for i, a := range acts {
		deeds[i] = api.Deed{Control: t.Control, Act: a}
		t.take(a)
	}
	if t.over {
		b.sent.remove(t.Control)
	} else {
		b.sent.put(t.Sent)
	}
	return deeds, nil
}
