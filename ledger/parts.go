package ledger

import (
	"courier/api"
	"courier/decide"
)

// How many bytes a number has, and a text's length.
const (
	numberSize = 8
	lengthSize = 4
)

// part is a value at its place in a record or in tables: it is laid as bytes, and read from them.
type part interface {
	lay(b []byte) []byte
	read(from *reader)
}

// field is a part that can be judged ahead of its laying.
type field interface {
	part
	isWell() bool
}

// badByte is what reading gives up with: the place of the first fault.
type badByte int

func giveUp(at int) { panic(badByte(at)) }

// reader stands at a place of bytes, and goes on to the right.
type reader struct {
	bytes []byte
	at    int
}

// take goes on behind the next n bytes. They are a piece of what was handed in.
func (r *reader) take(n int) []byte {
	if n > len(r.bytes)-r.at {
		giveUp(len(r.bytes))
	}
	piece := r.bytes[r.at : r.at+n]
	r.at += n
	return piece
}

// takeNumber goes on behind a number of that size, which must be within its bounds.
func (r *reader) takeNumber(size, least, most int) int {
	begin := r.at
	var n uint64
	for _, c := range r.take(size) {
		n = n<<8 | uint64(c)
	}
	// Compared ahead of its turning into an int, for which it may be too great.
	if n < uint64(least) || n > uint64(most) {
		giveUp(begin)
	}
	return int(n)
}

// end gives up, where bytes are left.
func (r *reader) end() {
	if r.at < len(r.bytes) {
		giveUp(r.at)
	}
}

// layNumber lays a number behind what is there, the highest byte first.
func layNumber(b []byte, n, size int) []byte {
	for i := size - 1; i >= 0; i-- {
		b = append(b, byte(uint64(n)>>(8*i)))
	}
	return b
}

// number is a number of so many bytes, within its bounds.
type number struct {
	value       *int
	size        int
	least, most int
}

func (n number) isWell() bool { return isWithin(*n.value, n.least, n.most) }

func (n number) lay(b []byte) []byte { return layNumber(b, *n.value, n.size) }

func (n number) read(from *reader) { *n.value = from.takeNumber(n.size, n.least, n.most) }

// text is bytes of a number within its bounds, of which something more may be asked.
type text[T string | []byte] struct {
	value       *T
	least, most int
	is          func(T) bool
}

func (t text[T]) isWell() bool {
	return isWithin(len(*t.value), t.least, t.most) && t.is(*t.value)
}

func (t text[T]) lay(b []byte) []byte {
	return append(layNumber(b, len(*t.value), lengthSize), *t.value...)
}

func (t text[T]) read(from *reader) {
	length := from.takeNumber(lengthSize, t.least, t.most)
	begin := from.at
	value := T(fresh(from.take(length)))
	if !t.is(value) {
		giveUp(begin)
	}
	*t.value = value
}

// conditions are three bytes, and right.
type conditions struct {
	value *api.Conditions
}

func (c conditions) isWell() bool {
	_, _, err := decide.Texts(*c.value)
	return err == nil
}

func (c conditions) lay(b []byte) []byte {
	return append(flag{&c.value.Enhanced}.lay(b), byte(c.value.Accept), byte(c.value.App))
}

func (c conditions) read(from *reader) {
	begin := from.at
	b := from.take(3)
	*c.value = api.Conditions{Enhanced: b[0] == 1, Accept: int(b[1]), App: int(b[2])}
	if b[0] > 1 || !c.isWell() {
		giveUp(begin)
	}
}

// flag is a byte, 1 or 0.
type flag struct {
	value *bool
}

func (f flag) lay(b []byte) []byte {
	if *f.value {
		return append(b, 1)
	}
	return append(b, 0)
}

func (f flag) read(from *reader) { *f.value = from.takeNumber(1, 0, 1) == 1 }

// letters are the same in all bytes of a form.
type letters string

func (l letters) lay(b []byte) []byte { return append(b, l...) }

func (l letters) read(from *reader) {
	begin := from.at
	if string(from.take(len(l))) != string(l) {
		giveUp(begin)
	}
}

// none is a field that is not named: whether it is zero. It has no bytes.
type none bool

func (n none) isWell() bool { return bool(n) }

func (n none) lay(b []byte) []byte { return b }

func (n none) read(*reader) {}
