package audit

import (
	"math"
	"strings"
	"testing"

	"courier/api"
)

// P2102, P2104: which objects and events are refused.

func TestUnmadePair(t *testing.T) {
	var none *Pair
	for what, p := range map[string]*Pair{"nil": none, "plain": {}, "new": new(Pair)} {
		for _, e := range []api.Event{{}, syncing(0), {Kind: 17}} {
			list, err := p.May(e)
			if list != nil {
				t.Errorf("May of a %s Pair: %v", what, list)
			}
			isFault(t, "May of a "+what+" Pair", err, api.ErrZero, 0)
			isFault(t, "Step of a "+what+" Pair", p.Step(e, nil), api.ErrZero, 0)
			isFault(t, "Step of a "+what+" Pair", p.Step(e, bothUp()), api.ErrZero, 0)
		}
	}
}

// bound is what a field of a kind of event may be: from where to where; a field that is not named is zero.
type bound struct{ least, most int }

// kind is a kind of event as chapter 22's table has it.
type kind struct {
	kind                                       api.EventKind
	sides                                      int
	text, control, verdict                     bool
	index, count, keep0, zeros0, keep1, zeros1 bound
}

func kinds() []kind {
	places, tail := bound{0, 10000}, bound{0, area}
	return []kind{
		{kind: api.EvSubmit, sides: 2, text: true},
		{kind: api.EvVerdict, sides: 2, control: true, verdict: true},
		{kind: api.EvTick, sides: 3, count: bound{1, 100000}},
		{kind: api.EvSync, sides: 2},
		{kind: api.EvCompact, sides: 2},
		{kind: api.EvFuse, sides: 2, count: bound{-1, 1000000}},
		{kind: api.EvCrash, sides: 2, keep0: tail, zeros0: tail, keep1: tail, zeros1: tail},
		{kind: api.EvRestart, sides: 2},
		{kind: api.EvProbe, sides: 2, control: true},
		{kind: api.EvResync, sides: 2, control: true, count: bound{0, top}},
		{kind: api.EvCarry, sides: 2, index: places, count: places},
		{kind: api.EvDrop, sides: 2, index: places},
		{kind: api.EvDouble, sides: 2, index: places},
		{kind: api.EvClip, sides: 2, index: places, count: places},
		{kind: api.EvNoise, sides: 2, text: true},
		{kind: api.EvRaw, sides: 2, text: true},
	}
}

// takes: whether May and Step look at the event at all.
func takes(t *testing.T, e api.Event, want bool) {
	t.Helper()
	p := begun(t, numbers())
	list, err := p.May(e)
	if want {
		if err != nil || len(list) != 1 {
			t.Errorf("%+v: %v, %v", e, list, err)
		}
		steps(t, p, e, list[0]...)
		return
	}
	if list != nil {
		t.Errorf("%+v: %v", e, list)
	}
	isFault(t, "May", err, api.ErrEvKind, 0)
	isFault(t, "Step", p.Step(e, nil), api.ErrEvKind, 0)
	may(t, p, restarting(0), []api.Seen{isRefused(0, api.ErrTwice)})
}

func TestKindsAreSixteen(t *testing.T) {
	for _, k := range []int{math.MinInt, -16, -1, 0, 17, 18, 255, 256, 257, 1 << 32, 1<<32 + 1, math.MaxInt} {
		for side := range 3 {
			takes(t, api.Event{Kind: api.EventKind(k), Side: side}, false)
			takes(t, api.Event{Kind: api.EventKind(k), Side: side, Count: 1}, false)
		}
	}
	if len(kinds()) != 16 {
		t.Error("kinds are missing")
	}
}

func TestSidesOfEvents(t *testing.T) {
	for _, k := range kinds() {
		for _, side := range []int{math.MinInt, -2, -1, 0, 1, 2, 3, 256, 1 << 32, math.MaxInt} {
			takes(t, api.Event{Kind: k.kind, Side: side, Count: k.count.least}, side >= 0 && side < k.sides)
		}
	}
}

func TestNumbersOfEvents(t *testing.T) {
	for _, k := range kinds() {
		for _, f := range []struct {
			bound
			set func(e *api.Event, n int)
		}{
			{k.index, func(e *api.Event, n int) { e.Index = n }},
			{k.count, func(e *api.Event, n int) { e.Count = n }},
			{k.keep0, func(e *api.Event, n int) { e.Tears[0].Keep = n }},
			{k.zeros0, func(e *api.Event, n int) { e.Tears[0].Zeros = n }},
			{k.keep1, func(e *api.Event, n int) { e.Tears[1].Keep = n }},
			{k.zeros1, func(e *api.Event, n int) { e.Tears[1].Zeros = n }},
		} {
			for _, n := range []int{math.MinInt, -1 << 32, f.least - 2, f.least - 1, f.least, f.least + 1, -1, 0, 1, f.most - 1, f.most, f.most + 1, 1 << 32, math.MaxInt} {
				e := api.Event{Kind: k.kind, Side: 1, Count: k.count.least}
				f.set(&e, n)
				takes(t, e, n >= f.least && n <= f.most)
			}
		}
	}
}

// What a kind does not use is zero; of what it uses texts are not looked at.
func TestTextsOfEvents(t *testing.T) {
	for _, k := range kinds() {
		base := api.Event{Kind: k.kind, Count: k.count.least}
		for _, text := range []string{"x", "\x00", "\x0b\x1c\r", strings.Repeat("x", 10000), "\xff"} {
			e := base
			e.Text = []byte(text)
			takes(t, e, k.text)
			e = base
			e.Control = text
			takes(t, e, k.control)
			e = base
			e.Code = text
			takes(t, e, k.verdict)
		}
		for _, f := range []api.Finding{{}, {Code: 101}, {Code: -5, Seg: "x\x00y", Occur: math.MaxInt}} {
			e := base
			e.Errors = []api.Finding{f}
			takes(t, e, k.verdict)
			e.Errors = make([]api.Finding, 100)
			takes(t, e, k.verdict)
		}
		e := base
		e.Text, e.Errors = []byte{}, []api.Finding{}
		takes(t, e, true)
	}
}

// An event that may not be is refused ahead of all else.
func TestEventsAreRefusedFirst(t *testing.T) {
	p := manyStates(t, 64, 64)
	isFault(t, "Step", p.Step(api.Event{Kind: api.EvSync, Count: 1}, nil), api.ErrEvKind, 0)
	isFault(t, "Step", p.Step(api.Event{Kind: api.EvCrash, Side: 2}, bothUp()), api.ErrEvKind, 0)
}
