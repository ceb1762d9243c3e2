package seq

import "courier/api"

// The two numbers of link messages.
const (
	probe  = 0
	resync = -1
)

// meaning is one thing that a message's number can say to a receiver, and the test for it.
type meaning struct {
	kind api.SeqKind
	fits func(r *Receiver, n int) bool
}

// meanings stand in the order in which they are asked: the first that fits holds.
func meanings() [4]meaning {
	return [4]meaning{
		{api.SeqProbe, isProbe},
		{api.SeqReset, isReset},
		{api.SeqRight, isRight},
		{api.SeqAgain, isAgain},
	}
}

func isProbe(_ *Receiver, n int) bool { return n == probe }

func isReset(_ *Receiver, n int) bool { return n == resync }

func isRight(r *Receiver, n int) bool {
	return isNumber(n) && (r.value() == n || r.value() == open)
}

func isAgain(r *Receiver, n int) bool { return r.last != none && n == r.last }
