package outbox

import (
	"courier/api"
	"courier/decide"
)

// refuse tells why a message can't stand behind those that the box holds; OK: it can.
func (b *Box) refuse(o api.Out) api.Errno {
	_, has := b.sent.find(o.Control)
	switch {
	case !isControl(o.Control):
		return api.ErrControl
	case has:
		return api.ErrTwice
	case len(o.Text) == 0 || len(o.Text) > api.MaxMessage:
		return api.ErrLong
	case !areRight(o.Cond, o.Noted):
		return api.ErrCond
	case o.Number != 0 && !b.mayBring(o.Number):
		return api.ErrGiven
	}
	return api.OK
}

// mayBring tells whether the next message that is put in may have the number: only a head has one.
func (b *Box) mayBring(n int) bool {
	return b.sequenced && b.sent.count() == 0 && isNumber(n)
}

func isControl(text string) bool {
	if len(text) == 0 || len(text) > api.MaxControl {
		return false
	}
	for _, c := range []byte(text) {
		if !isControlByte(c) {
			return false
		}
	}
	return true
}

func isControlByte(c byte) bool {
	return c >= '0' && c <= '9' || c >= 'A' && c <= 'Z' || c >= 'a' && c <= 'z' || c == '.' || c == '-'
}

// areRight tells whether conditions are, also for a message whose commit has come.
func areRight(c api.Conditions, noted bool) bool {
	commit, err := decide.May(c, commitAccept)
	return err == nil && (commit || !noted)
}

func isNumber(n int) bool { return n >= 1 && n <= api.MaxNumber }
