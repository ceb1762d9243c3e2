package link

import (
	"iter"

	"courier/api"
)

// piece: of a broken one a beginning has arrived, and the rest is left.
type piece struct {
	left   []byte
	broken bool
}

// direction is what one side has under way. Neither a list nor a piece's bytes are written over once they stand in it: each change makes a new list, so that a copied Link goes its own way.
type direction struct {
	pieces []piece
}

// all goes over the pieces by their places.
func (d *direction) all() iter.Seq2[int, piece] {
	return func(yield func(int, piece) bool) {
		for at, p := range d.pieces {
			if !yield(at, p) {
				return
			}
		}
	}
}

// has tells whether there is such a piece, with n bytes left at least.
func (d *direction) has(index, n int) bool {
	return index >= 0 && index < len(d.pieces) && n >= 0 && n <= len(d.pieces[index].left)
}

func (d *direction) half() int {
	for at, p := range d.all() {
		if p.broken {
			return at
		}
	}
	return nowhere
}

// waitsForAnother: what has begun to arrive must end ahead of anything else.
func (d *direction) waitsForAnother(index int) bool {
	half := d.half()
	return half != nowhere && half != index
}

// add puts a copy of the bytes behind the others, if there is room.
func (d *direction) add(p []byte) error {
	n := len(d.pieces)
	if n >= api.MaxFlight {
		return fault(0, api.ErrFull)
	}
	d.pieces = append(d.pieces[:n:n], piece{left: fresh(p)})
	return nil
}

// take tells a piece's first bytes; a piece of which nothing is left goes.
func (d *direction) take(at, n int) []byte {
	left := d.pieces[at].left
	if n == len(left) {
		d.remove(at)
	} else {
		d.replace(at, piece{left: left[n:len(left):len(left)], broken: true})
	}
	return fresh(left[:n])
}

func (d *direction) clip(at, n int) {
	p := d.pieces[at]
	d.replace(at, piece{left: p.left[:n:n], broken: p.broken})
}

func (d *direction) replace(at int, p piece) {
	list := make([]piece, len(d.pieces))
	copy(list, d.pieces)
	list[at] = p
	d.pieces = list
}

func (d *direction) remove(at int) {
	list := make([]piece, len(d.pieces)-1)
	copy(list, d.pieces[:at])
	copy(list[at:], d.pieces[at+1:])
	d.pieces = list
}

func fresh(p []byte) []byte {
	b := make([]byte, len(p))
	copy(b, p)
	return b
}
