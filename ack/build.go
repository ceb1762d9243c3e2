package ack

import (
	"strconv"

	"courier/api"
	"courier/esc"
	"courier/types"
)

// writer makes the segments of an Ack that is right, with empty ends. What it asks of the layers below they don't refuse then.
type writer struct {
	marks api.Marks
}

func (w writer) head(a api.Ack) api.Seg {
	var condition string
	if a.Enhanced {
		condition = "NE"
	}
	return api.Seg{Name: msh, Fields: []api.Field{
		lay(w, "HD", a.From),
		lay(w, "HD", a.FromPlace),
		lay(w, "HD", a.To),
		lay(w, "HD", a.ToPlace),
		w.text(a.Stamp),
		{},
		lay(w, "MSG", messageType(a.Event)),
		w.text(a.Control),
		w.text(a.Process),
		w.text(a.Version),
		{},
		{},
		w.text(condition),
		w.text(condition),
	}}
}

// messageType are the parts of MSH-9: without an event there is nothing for the third to tell.
func messageType(event string) [3]string {
	if event == "" {
		return [3]string{"ACK"}
	}
	return [3]string{"ACK", event, "ACK"}
}

func (w writer) answer(a api.Ack) api.Seg {
	var expect string
	if a.Expect != noNumber {
		expect = strconv.Itoa(a.Expect)
	}
	return api.Seg{Name: msa, Fields: []api.Field{w.text(a.Code), w.text(a.For), {}, w.text(expect)}}
}

func (w writer) report(f api.Finding) api.Seg {
	place := [6]string{f.Seg}
	for i, n := range numbersOf(f) {
		if n > 0 {
			place[i+1] = strconv.Itoa(n)
		}
	}
	return api.Seg{Name: errs, Fields: []api.Field{
		{},
		lay(w, "ERL", place),
		lay(w, "CWE", [9]string{strconv.Itoa(f.Code), "", "HL70357"}),
		w.text("E"),
	}}
}

// text is a field of one plain text.
func (w writer) text(plain string) api.Field {
	wire, _ := esc.Escape(w.marks, plain)
	return api.Field{Reps: []api.Rep{{Comps: []api.Comp{{Subs: []string{wire}}}}}}
}

// lay is a field of one value of a kind with parts.
func lay[V types.Parted](w writer, kind string, parts V) api.Field {
	value, _ := types.Lay(w.marks, kind, parts)
	return api.Field{Reps: []api.Rep{value}}
}
