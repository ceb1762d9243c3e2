package audit

import (
	"bytes"
	"encoding/binary"
	"fmt"
	"math/rand/v2"
	"slices"
	"strconv"
	"strings"
	"testing"

	"courier/api"
	"courier/disk"
	"courier/engine"
	"courier/ledger"
)

// P2102, P2104: what May tells is all that may be seen, and nothing else. It is held against worlds of which there is one for each choice: a crash leaves just so many records, a restart costs just so many writes.

// choice is an event of which nothing is left open.
type choice struct {
	api.Event
	writes int // of a restart; -1: as many as it needs
}

// fork is a world, and all that was chosen for it.
type fork struct {
	*world
	chosen []choice
}

// twin gives the same world once more.
func (f fork) twin() fork {
	w, _ := newWorld(f.t, f.setup)
	for _, c := range f.chosen {
		w.choose(c)
	}
	return fork{w, slices.Clip(f.chosen)}
}

// choose plays an event as it was chosen.
func (w *world) choose(c choice) []api.Seen {
	if c.writes < 0 {
		return w.play(c.Event)
	}
	d, left := w.disks[c.Side], w.fuses[c.Side]-c.writes
	if left < 0 {
		d.Fuse(0)
		w.fuses[c.Side] = 0
		d.Cut(0, 0)
		return []api.Seen{down(c.Side)}
	}
	// What it needs in truth is made up for.
	w.fuses[c.Side] = left + w.needed(c.Side)
	d.Fuse(w.fuses[c.Side])
	return w.play(c.Event)
}

// needed is how many writes a side's log needs until it can be read: all but the records that its first step appends.
func (w *world) needed(side int) int {
	twin, _ := disk.From(contents(w.disks[side]))
	engine.Open(w.setup, side, twin, w.clocks[side])
	return twin.Counts().Cuts + twin.Counts().Syncs
}

// contents are all bytes of a disk that is alive.
func contents(d *disk.Disk) [2][]byte {
	var areas [2][]byte
	for area := range areas {
		n, _ := d.Len(area)
		areas[area], _ = d.Read(area, 0, n)
	}
	return areas
}

// allBytes are those of a side's disk, which may be dead.
func (f fork) allBytes(side int) [2][]byte {
	d := f.disks[side]
	if !d.Alive() {
		d = f.twin().disks[side]
		d.Crash(bothKeep(api.MaxArea))
	}
	return contents(d)
}

func bothKeep(n int) [2]api.Tear { return [2]api.Tear{{Keep: n}, {Keep: n}} }

// choices are all that an event may be for a fork.
func (f fork) choices(e api.Event) []choice {
	var list []choice
	switch {
	case e.Kind == api.EvCrash:
		for _, tears := range f.tears(e) {
			e.Tears = tears
			list = append(list, choice{e, -1})
		}
	case e.Kind == api.EvRestart && f.engines[e.Side] == nil && f.disks[e.Side].Alive() && f.fuses[e.Side] >= 0:
		for writes := range 3 {
			list = append(list, choice{e, writes})
		}
	default:
		list = append(list, choice{e, -1})
	}
	return list
}

// tears are those that leave whole records of the tails, as far as the event's lets.
func (f fork) tears(e api.Event) [][2]api.Tear {
	var ends [2][]int
	for area, b := range f.allBytes(e.Side) {
		synced, _ := f.disks[e.Side].Synced(area)
		ends[area] = wholeEnds(b[synced:])
	}
	isAll := e.Tears[0].Keep >= api.MaxArea && e.Tears[1].Keep >= api.MaxArea
	isNone := e.Tears[0].Keep <= 0 && e.Tears[1].Keep <= 0
	var list [][2]api.Tear
	for _, a := range ends[0] {
		for _, b := range ends[1] {
			whole := a == ends[0][len(ends[0])-1] && b == ends[1][len(ends[1])-1]
			if !(isAll && !whole || isNone && a+b > 0) {
				list = append(list, [2]api.Tear{{Keep: a}, {Keep: b}})
			}
		}
	}
	return list
}

// wholeEnds are the places in a tail up to which it is whole: a new head with its snapshot, or records.
func wholeEnds(tail []byte) []int {
	if bytes.HasPrefix(tail, []byte("HWL1")) {
		return []int{0, len(tail)}
	}
	ends := []int{0}
	for at := 0; at < len(tail); {
		at += 13 + int(binary.BigEndian.Uint32(tail[at:]))
		ends = append(ends, at)
	}
	return ends
}

// forked plays an event in all forks, and tells what was seen in each.
func forked(from []fork, e api.Event) ([]fork, [][]api.Seen) {
	var to []fork
	var all [][]api.Seen
	for _, f := range from {
		choices := f.choices(e)
		for i, c := range choices {
			next := f
			if i+1 < len(choices) {
				next = f.twin()
			}
			next.chosen = append(next.chosen, c)
			to, all = append(to, next), append(all, next.choose(c))
		}
	}
	return to, all
}

func inOrder(a, b []api.Seen) int { return strings.Compare(told(a), told(b)) }

// branch is what follows one of the lists of an event.
type branch struct {
	seen []api.Seen
	p    *Pair
	from []fork
}

// branches: May tells what is seen in the forks, in order, once each; behind each list the Pair has as many states as there are forks that are unlike.
func branches(t *testing.T, p *Pair, from []fork, e api.Event) []branch {
	t.Helper()
	to, all := forked(from, e)
	want := slices.CompactFunc(slices.SortedFunc(slices.Values(all), inOrder), same)
	may, err := p.May(e)
	if err != nil || !slices.EqualFunc(may, want, same) {
		t.Fatalf("%+v %q: %v, may\n%s\nin the forks\n%s\nbehind %+v", e, e.Text, err, shownAll(may), shownAll(want), from[0].chosen)
	}
	var list []branch
	for _, seen := range want {
		// Of a Pair that is copied each goes its own way.
		q := *p
		steps(t, &q, e, seen...)
		b := branch{seen: seen, p: &q}
		texts := map[string]bool{}
		for i, f := range to {
			if !same(all[i], seen) {
				continue
			}
			if text := f.text(); !texts[text] {
				texts[text] = true
				b.from = append(b.from, f)
			}
		}
		if len(q.spots) != len(b.from) {
			t.Fatalf("behind %+v: %d states, of the forks %d are unlike", b.from[0].chosen, len(q.spots), len(b.from))
		}
		list = append(list, b)
	}
	return list
}

// explore goes every way that the events may take.
func explore(t *testing.T, p *Pair, from []fork, events ...api.Event) {
	t.Helper()
	if len(events) == 0 {
		return
	}
	for _, b := range branches(t, p, from, events[0]) {
		explore(t, b.p, b.from, events[1:]...)
	}
}

// explored goes every way of events from the beginning.
func explored(t *testing.T, s api.Setup, events ...api.Event) {
	t.Helper()
	w, _ := newWorld(t, s)
	explore(t, begun(t, s), []fork{{world: w}}, events...)
}

// text tells forks apart that are not the same.
func (f fork) text() string {
	text := fmt.Sprint(f.clocks, f.fuses, f.link.Flight(0), f.link.Flight(1), f.link.Half(0), f.link.Half(1))
	for side, e := range f.engines {
		if e != nil {
			x := e.Image()
			x.Counts = api.Counts{}
			text += fmt.Sprintf("%+v", x)
		}
		// What is there behind a crash that leaves nothing of the tails, and behind one that leaves all; records of these between.
		text += fmt.Sprint(f.disks[side].Alive()) + f.bookOf(side, f.disks[side].Image()) + f.bookOf(side, f.allBytes(side))
	}
	return text
}

// bookOf is what a log's bytes tell a side.
func (f fork) bookOf(side int, areas [2][]byte) string {
	d, _ := disk.From(areas)
	own, other := f.setup.Sides[side], f.setup.Sides[1-side]
	book, err := ledger.Open(d, api.Terms{Sends: own.Sequence, Takes: other.Sequence, Keep: own.Keep})
	if err != nil {
		f.t.Fatal(err)
	}
	return fmt.Sprintf("%+v %d", book.Tables(), book.Stat().Records)
}

func TestForks(t *testing.T) {
	for seed := range seeds(150) {
		t.Run(strconv.Itoa(seed), func(t *testing.T) {
			t.Parallel()
			c := rand.New(rand.NewPCG(uint64(seed), 2102))
			s := anySetup(c)
			w, _ := newWorld(t, s)
			p, from := begun(t, s), []fork{{world: w}}
			for range 80 {
				next := chance{c, from[c.IntN(len(from))].world, 9}
				list := branches(t, p, from, next.event())
				b := list[c.IntN(len(list))]
				if p, from = b.p, b.from; len(from) > 100 {
					return
				}
			}
		})
	}
}
