package link

import (
	"testing"

	"courier/api"
)

// The chapter's examples, in their order.
func TestP1903Examples(t *testing.T) {
	p := begun(t, send(0, "abcdef"), send(0, "xy"))
	p.takes(t, carry(0, 0, 4), "abcd", 0, "ef", "xy")
	p.refuses(t, carry(0, 1, 0), api.ErrRange, 0)
	p.refuses(t, double(0, 0), api.ErrRange, 0)
	p.takes(t, double(0, 1), "", 0, "ef", "xy", "xy")
	p.takes(t, clip(0, 0, 1), "", 0, "e", "xy", "xy")
	p.takes(t, carry(0, 0, 0), "e", -1, "xy", "xy")
	p.refuses(t, carry(0, 1, 3), api.ErrRange, 0)
	p.takes(t, drop(0, 0), "", -1, "xy")
	p.refuses(t, noise(1, "a\x0B"), api.ErrFraming, 1)
	p.refuses(t, send(2, "a"), api.ErrArg, 0)
	p.refuses(t, clip(0, 0, 0), api.ErrRange, 0)
	has(t, "the end", p.l, 0, -1, "xy")
	has(t, "the end", p.l, 1, -1)
}
