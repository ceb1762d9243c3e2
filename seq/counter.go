package seq

import "courier/api"

// What a counter's values mean beside numbers.
const (
	spent = 0 // a sender's next: no number is left
	open  = 0 // what a receiver expects: any number
	none  = 0 // a receiver's last: nothing was accepted
)

// counter is what both directions have: where they stand, and that this package made them.
type counter struct {
	at   int
	made bool
}

func begun(at int) counter { return counter{at: at, made: true} }

func (c *counter) value() int { return c.at }

func (c *counter) put(at int) { c.at = at }

func (c *counter) isMade() bool { return c.made }

func isNumber(n int) bool { return n >= 1 && n <= api.MaxNumber }

func mayBeNext(n int) bool { return n == spent || isNumber(n) }

// mayStand tells whether a receiver can come to expect this number with that one accepted last.
func mayStand(expects, last int) bool {
	if last == none {
		return expects == open || isNumber(expects)
	}
	return isNumber(last) && expects == last+1
}

// behind gives the number that a sender has next, once this one is given out.
func behind(n int) int {
	if n == api.MaxNumber {
		return spent
	}
	return n + 1
}
