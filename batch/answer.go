package batch

import (
	"courier/api"
	"courier/esc"
	"courier/tree"
)

// The places of fields in their segments' lists.
const (
	controlID = 7 // MSH-10: the first is MSH-3
	answered  = 1 // MSA-2
)

// desk is where a batch's messages wait for their acknowledgements.
type desk struct {
	marks   api.Marks
	numbers map[string]int // of the first message with that control id
	acks    []string       // by the messages' numbers; empty where none has come
}

// asked gives a desk for messages that Print has taken.
func asked(messages []string) *desk {
	d := &desk{numbers: map[string]int{}, acks: make([]string, len(messages))}
	for number, text := range messages {
		m, _ := tree.Parse([]byte(text))
		d.marks = m.Marks
		control, ok := plain(m.Marks, m.Segs[0], controlID)
		if _, known := d.numbers[control]; ok && !known {
			d.numbers[control] = number
		}
	}
	return d
}

// take puts an acknowledgement to the message that it answers.
func (d *desk) take(at int, text string) error {
	m, form, err := formed(ended(text))
	if err != nil {
		return refused(at, err)
	}
	if m.Marks != d.marks {
		return fault(at, api.ErrMark, nil)
	}
	if len(m.Segs) < 2 || m.Segs[1].Name != "MSA" {
		return fault(at, api.ErrForm, nil)
	}
	control, ok := plain(m.Marks, m.Segs[1], answered)
	if !ok {
		return fault(at, api.ErrForm, nil)
	}
	number, known := d.numbers[control]
	switch {
	case !known:
		return fault(at, api.ErrUnknown, nil)
	case d.acks[number] != "":
		return fault(at, api.ErrTwice, nil)
	}
	d.acks[number] = form
	return nil
}

// answers are those that have come, in the order of the messages.
func (d *desk) answers() []string {
	var come []string
	for _, form := range d.acks {
		if form != "" {
			come = append(come, form)
		}
	}
	return come
}

// plain tells the plain text of a field that is one subcomponent.
func plain(k api.Marks, s api.Seg, field int) (string, bool) {
	wire, ok := only(s, field)
	if !ok {
		return "", false
	}
	// The message was read: its wire texts are right.
	text, _ := esc.Unescape(k, wire)
	return text, true
}
