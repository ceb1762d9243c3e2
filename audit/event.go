package audit

import "courier/api"

// The greatest numbers of a script's lines that stand nowhere else.
const (
	maxFuse  = 1000000
	maxPlace = 10000
)

// both stands for both sides.
const both = 2

// span is from where to where a number may be.
type span struct{ least, most int }

func (s span) has(n int) bool { return n >= s.least && n <= s.most }

// use is what a kind of event has; of what it does not name just the zero value may be.
type use struct {
	side    span
	text    bool
	control bool
	verdict bool // Code and Errors
	index   span
	count   span
	tear    span
}

// uses stand by their kinds.
func uses() [api.EvRaw + 1]use {
	one, places := span{0, 1}, span{0, maxPlace}
	return [...]use{
		api.EvSubmit:  {side: one, text: true},
		api.EvVerdict: {side: one, control: true, verdict: true},
		api.EvTick:    {side: span{0, both}, count: span{1, api.MaxTicks}},
		api.EvSync:    {side: one},
		api.EvCompact: {side: one},
		api.EvFuse:    {side: one, count: span{noFuse, maxFuse}},
		api.EvCrash:   {side: one, tear: span{0, api.MaxArea}},
		api.EvRestart: {side: one},
		api.EvProbe:   {side: one, control: true},
		api.EvResync:  {side: one, control: true, count: span{0, api.MaxNumber}},
		api.EvCarry:   {side: one, index: places, count: places},
		api.EvDrop:    {side: one, index: places},
		api.EvDouble:  {side: one, index: places},
		api.EvClip:    {side: one, index: places, count: places},
		api.EvNoise:   {side: one, text: true},
		api.EvRaw:     {side: one, text: true},
	}
}

// mayBe tells whether an event is one that a script can say, whatever its texts are.
func mayBe(e api.Event) bool {
	if e.Kind < api.EvSubmit || e.Kind > api.EvRaw {
		return false
	}
	u := uses()[e.Kind]
	for _, t := range e.Tears {
		if !u.tear.has(t.Keep) || !u.tear.has(t.Zeros) {
			return false
		}
	}
	return u.side.has(e.Side) &&
		(u.text || len(e.Text) == 0) &&
		(u.control || e.Control == "") &&
		(u.verdict || e.Code == "" && len(e.Errors) == 0) &&
		u.index.has(e.Index) && u.count.has(e.Count)
}
