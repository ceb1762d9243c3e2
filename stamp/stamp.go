// Package stamp: HL7's time stamps (layer 1).
package stamp

import (
	"cmp"

	"courier/api"
)

// Parse reads a stamp.
func Parse(text string) (api.Stamp, error) {
	r := reader{text: text}
	s := r.date()
	if r.digitAhead() { // a date stops ahead of a digit behind its day alone
		r.clock(&s)
	}
	r.zone(&s)
	if err := r.end(); err != nil {
		return api.Stamp{}, err
	}
	return s, nil
}

// Print writes a stamp's text.
func Print(s api.Stamp) (string, error) {
	if !right(s) {
		return "", fault(0, api.ErrStamp)
	}
	return write(s), nil
}

// Date tells whether a text is a date.
func Date(text string) error {
	r := reader{text: text}
	r.date()
	return r.end()
}

// Time tells whether a text is a time of day.
func Time(text string) error {
	r := reader{text: text}
	var s api.Stamp
	r.clock(&s)
	r.zone(&s)
	return r.end()
}

// Instant tells a stamp's instant: ten-thousandths of a second from the beginning of the year 1 on.
func Instant(s api.Stamp) (int64, error) {
	if !right(s) {
		return 0, fault(0, api.ErrStamp)
	}
	return instant(s), nil
}

// Span tells the first and the last instant that a stamp may stand for.
func Span(s api.Stamp) (int64, int64, error) {
	if !right(s) {
		return 0, 0, fault(0, api.ErrStamp)
	}
	first := instant(s)
	return first, first + length(s) - 1, nil
}

// Of tells the stamp of an instant at a level.
func Of(t int64, level int) (api.Stamp, error) {
	if t < 0 || t > lastInstant || level != api.StampSecond && level != api.StampPart {
		return api.Stamp{}, fault(0, api.ErrRange)
	}
	return stampOf(t, level), nil
}

// Compare orders two stamps by their instants.
func Compare(a api.Stamp, b api.Stamp) (int, error) {
	if err := bothRight(a, b); err != nil {
		return 0, err
	}
	return cmp.Compare(instant(a), instant(b)), nil
}

// At tells the stamp of a tick.
func At(start api.Stamp, tick int) (api.Stamp, error) {
	if !right(start) || start.Level != api.StampSecond || start.Zoned {
		return api.Stamp{}, fault(0, api.ErrStamp)
	}
	if tick < 0 || int64(tick) > api.MaxTick {
		return api.Stamp{}, fault(0, api.ErrRange)
	}
	t := min(instant(start)+int64(tick)*perSecond, lastInstant)
	return stampOf(t, api.StampSecond), nil
}

// Ticks tells how many whole seconds b stands behind a.
func Ticks(a api.Stamp, b api.Stamp) (int64, error) {
	if err := bothRight(a, b); err != nil {
		return 0, err
	}
	return floorDiv(instant(b)-instant(a), perSecond), nil
}

func bothRight(a api.Stamp, b api.Stamp) error {
	if !right(a) {
		return fault(0, api.ErrStamp)
	}
	if !right(b) {
		return fault(1, api.ErrStamp)
	}
	return nil
}

func fault(at int, code api.Errno) error {
	return &api.Fault{Layer: "stamp", At: at, Code: code}
}
