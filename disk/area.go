package disk

import "courier/api"

// area: the tail is what stands behind the synced bytes.
type area struct {
	bytes  []byte
	synced int
}

// has tells whether n bytes stand from a place on. It takes off, and does not add, because a sum of any two numbers may wrap round.
func (a *area) has(at, n int) bool {
	return at >= 0 && at <= len(a.bytes) && n >= 0 && n <= len(a.bytes)-at
}

func (a *area) room() int {
	return api.MaxArea - len(a.bytes)
}

func (a *area) put(p []byte) {
	a.bytes = append(a.bytes, p...)
}

func (a *area) sync() {
	a.synced = len(a.bytes)
}

func (a *area) cut(n int) {
	a.bytes = a.bytes[:n]
	a.synced = min(a.synced, n)
}

func (a *area) read(at, n int) []byte {
	return append([]byte(nil), a.bytes[at:at+n]...)
}

// tear leaves of the tail what a crash spares, and takes that for synced.
func (a *area) tear(t api.Tear) {
	tail := a.bytes[a.synced:]
	keep := between(t.Keep, len(tail))
	zeros := between(t.Zeros, len(tail)-keep)
	clear(tail[keep : keep+zeros])
	a.cut(a.synced + keep + zeros)
	a.sync()
}

// between moves n to the nearest number from 0 to most.
func between(n, most int) int {
	return min(max(n, 0), most)
}

// areas is what Disk embeds: the two areas, and what is done to both at once.
type areas struct {
	both [2]area
}

func (a *areas) fill(with [2][]byte) {
	for i := range a.both {
		a.both[i].put(with[i])
		a.both[i].sync()
	}
}

func (a *areas) tear(tears [2]api.Tear) {
	for i := range a.both {
		a.both[i].tear(tears[i])
	}
}

func (a *areas) safe() [2][]byte {
	var out [2][]byte
	for i := range a.both {
		out[i] = a.both[i].read(0, a.both[i].synced)
	}
	return out
}

// known tells whether a number is an area's.
func (a *areas) known(number int) bool {
	return number >= 0 && number < len(a.both)
}
