package world

import (
	"bytes"
	"slices"
	"strings"

	"courier/api"
)

// The greatest numbers that stand in lines of events and nowhere else.
const (
	noFuse   = -1
	maxFuse  = 1000000
	maxPiece = 10000
	both     = 2 // sides, of a tick
)

// event has the places of each kind of event as methods.
type event api.Event

func eventForms() []form[api.EventKind, event] {
	return []form[api.EventKind, event]{
		{api.EvSubmit, "submit", (*event).text},
		{api.EvVerdict, "verdict", (*event).verdict},
		{api.EvTick, "tick", (*event).tick},
		{api.EvSync, "sync", (*event).side},
		{api.EvCompact, "compact", (*event).side},
		{api.EvRestart, "restart", (*event).side},
		{api.EvFuse, "fuse", (*event).fuse},
		{api.EvCrash, "crash", (*event).crash},
		{api.EvProbe, "probe", (*event).control},
		{api.EvResync, "resync", (*event).resync},
		{api.EvCarry, "carry", (*event).part},
		{api.EvDrop, "drop", (*event).piece},
		{api.EvDouble, "double", (*event).piece},
		{api.EvClip, "clip", (*event).part},
		{api.EvNoise, "noise", (*event).text},
		{api.EvRaw, "raw", (*event).text},
	}
}

func (e *event) side(p pen) bool { return p.number(&e.Side, 0, 1) }

func (e *event) text(p pen) bool { return e.side(p) && p.bytes(&e.Text) }

func (e *event) control(p pen) bool { return e.side(p) && p.word(&e.Control) }

func (e *event) verdict(p pen) bool {
	return e.control(p) && p.word(&e.Code) && p.findings(&e.Errors)
}

func (e *event) tick(p pen) bool {
	return p.number(&e.Side, 0, both) && p.number(&e.Count, 1, api.MaxTicks)
}

func (e *event) fuse(p pen) bool { return e.side(p) && p.number(&e.Count, noFuse, maxFuse) }

func (e *event) crash(p pen) bool {
	if !e.side(p) {
		return false
	}
	for i := range e.Tears {
		t := &e.Tears[i]
		if !p.number(&t.Keep, 0, api.MaxArea) || !p.number(&t.Zeros, 0, api.MaxArea) {
			return false
		}
	}
	return true
}

func (e *event) resync(p pen) bool {
	return e.control(p) && p.number(&e.Count, 0, api.MaxNumber)
}

func (e *event) piece(p pen) bool { return e.side(p) && p.number(&e.Index, 0, maxPiece) }

func (e *event) part(p pen) bool { return e.piece(p) && p.number(&e.Count, 0, maxPiece) }

// readEvent reads a script's line.
func readEvent(text string) (api.Event, bool) {
	kind, made, ok := readAs(&reader{rest: text}, eventForms())
	made.Kind = kind
	return api.Event(made), ok
}

// eventLine writes the line that says an event. Whatever is read otherwise than it was written is said by none: so what an event may have is told by the reader alone.
func eventLine(e api.Event) (string, bool) {
	var w writer
	x := event(e)
	if !writeAs(&w, e.Kind, &x, eventForms()) {
		return "", false
	}
	text := line(w.words...)
	back, ok := readEvent(strings.TrimSuffix(text, "\n"))
	return text, ok && sameEvent(e, back)
}

func sameEvent(a, b api.Event) bool {
	return a.Kind == b.Kind && a.Side == b.Side && bytes.Equal(a.Text, b.Text) &&
		a.Control == b.Control && a.Code == b.Code && slices.Equal(a.Errors, b.Errors) &&
		a.Index == b.Index && a.Count == b.Count && a.Tears == b.Tears
}
