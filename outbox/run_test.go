package outbox

import (
	"math/rand"
	"slices"
	"testing"

	"courier/api"
)

func oneOf[T any](g *rand.Rand, list []T) T { return list[g.Intn(len(list))] }

// pickID gives a control id that the box holds, if it holds one, and now and then another.
func pickID(g *rand.Rand, m *model) string {
	if len(m.outs) == 0 || g.Intn(12) == 0 {
		return oneOf(g, []string{"", "A1", "nobody", "A 1"})
	}
	if g.Intn(2) == 0 {
		return m.outs[0].Control
	}
	return oneOf(g, m.outs).Control
}

func pickExpect(g *rand.Rand, m *model) int {
	if len(m.outs) > 0 && g.Intn(3) == 0 {
		return m.outs[0].Number
	}
	return oneOf(g, []int{0, 0, 0, 1, 2, 7, top, -1, top + 1})
}

func pickConditions(g *rand.Rand) api.Conditions {
	if g.Intn(20) == 0 {
		return oneOf(g, wrongConditions())
	}
	return oneOf(g, rightConditions())
}

// run is a box on its way, with all that was ever added to it.
type run struct {
	b     *Box
	m     *model
	added []string
	ended map[string]int
}

func newRun(t *testing.T, g *rand.Rand, sequenced bool) *run {
	t.Helper()
	b, m := both(t, nil, sequenced, oneOf(g, []int{0, 1, 2, 3, 16}))
	return &run{b: b, m: m, ended: map[string]int{}}
}

// add adds a message with a control id that no other one had, now and then with one that is there, or wrong.
func (r *run) add(t *testing.T, g *rand.Rand) {
	t.Helper()
	id := name(len(r.added))
	if g.Intn(8) == 0 {
		id = pickID(g, r.m)
	}
	if slices.Contains(r.added, id) && r.m.place(id) < 0 {
		return
	}
	n := r.b.Len()
	adds(t, r.b, r.m, id, make([]byte, oneOf(g, []int{0, 1, 5, 5, 5, 8192, 8193})), pickConditions(g))
	if r.b.Len() > n {
		r.added = append(r.added, id)
	}
}

// step makes one call, and looks at its deeds: what P1409 says of sendings and ends.
func (r *run) step(t *testing.T, g *rand.Rand) {
	t.Helper()
	var deeds []api.Deed
	old := r.m.sent()
	switch g.Intn(9) {
	case 0, 1:
		r.add(t, g)
	case 2:
		gives(t, r.b, r.m, oneOf(g, []int{0, 1, 7, 8, top, top + 1}))
	case 3, 4:
		deeds = goes(t, r.b, r.m)
	case 5, 6, 7:
		deeds = hears(t, r.b, r.m, pickID(g, r.m), oneOf(g, allCodes()), pickExpect(g, r.m))
	case 8:
		deeds = isDue(t, r.b, r.m, pickID(g, r.m))
	}
	for _, d := range deeds {
		if d.Kind == api.ActFinal {
			r.ended[d.Control]++
		}
		if d.Kind == api.ActSend && r.m.sequenced && old[0].Control != d.Control {
			t.Fatalf("%s goes out while %s is in the box", d.Control, old[0].Control)
		}
	}
}

// balance: each message that was added is over once, or in the box.
func (r *run) balance(t *testing.T) {
	t.Helper()
	for _, id := range r.added {
		_, err := r.b.Get(id)
		if n := r.ended[id]; n > 1 || (n == 1) == (err == nil) {
			t.Fatalf("%s has ended %d times, and Get says %v", id, n, err)
		}
	}
	if len(r.added) != len(r.ended)+r.b.Len() {
		t.Fatalf("%d were added, %d ended, %d are there", len(r.added), len(r.ended), r.b.Len())
	}
}

// outsOf are the Outs that List tells.
func outsOf(b *Box) []api.Out {
	var list []api.Out
	for _, s := range b.List() {
		list = append(list, s.Out)
	}
	return list
}

// again makes the box anew from what it tells.
func (r *run) again(t *testing.T) {
	t.Helper()
	list := outsOf(r.b)
	old := r.b
	r.b = load(t, list, r.m.sequenced, r.m.tries)
	stands(t, "the old box", old, r.m)
	r.m = newModel(list, r.m.sequenced, r.m.tries)
	stands(t, "made anew", r.b, r.m)
}

func TestP1409RunsAnswerAsTheModel(t *testing.T) {
	g := rand.New(rand.NewSource(1409))
	for _, sequenced := range kinds() {
		for range 150 {
			r := newRun(t, g, sequenced)
			for range 150 {
				r.step(t, g)
			}
			r.balance(t)
		}
	}
}

func TestP1409LoadOfWhatListTells(t *testing.T) {
	g := rand.New(rand.NewSource(1410))
	for _, sequenced := range kinds() {
		for range 100 {
			r := newRun(t, g, sequenced)
			for range 150 {
				r.step(t, g)
				if g.Intn(10) == 0 {
					r.again(t)
				}
			}
			r.balance(t)
		}
	}
}

func TestP1409EachEndsBehindTriesAndTwoDues(t *testing.T) {
	for _, sequenced := range kinds() {
		for _, tries := range []int{0, 1, 16} {
			var list []api.Out
			for i, c := range rightConditions() {
				list = append(list, api.Out{Control: name(i), Text: []byte("t"), Cond: c})
			}
			b, m := both(t, list, sequenced, tries)
			r := &run{b: b, m: m, ended: map[string]int{}}
			for i := range list {
				r.added = append(r.added, name(i))
				gives(t, b, m, i+1)
				deeds := goes(t, b, m)
				for range tries + 2 {
					deeds = append(deeds, isDue(t, b, m, name(i))...)
				}
				finals := 0
				for _, d := range deeds {
					if d.Kind == api.ActFinal {
						finals++
					}
				}
				if r.ended[name(i)] = finals; finals != 1 {
					t.Fatalf("%s ends %d times", name(i), finals)
				}
			}
			r.balance(t)
		}
	}
}

func TestP1410BoxesInTurns(t *testing.T) {
	g := rand.New(rand.NewSource(1411))
	var runs []*run
	for i := range 4 {
		runs = append(runs, newRun(t, g, i%2 == 0))
	}
	for range 4000 {
		oneOf(g, runs).step(t, g)
		for _, r := range runs {
			tells(t, "in turns", r.b, r.m)
		}
	}
	for _, r := range runs {
		r.balance(t)
	}
}

func TestP1410BoxesOfOneList(t *testing.T) {
	list := outs(3)
	list[0].Number = 6
	b, m := both(t, list, true, 1)
	c, n := both(t, list, true, 1)
	goes(t, b, m)
	hears(t, b, m, name(0), "CE", 9)
	stands(t, "the other", c, n)
	gives(t, c, n, 4)
	stands(t, "the first", b, m)
	hears(t, b, m, name(0), "AA", 0)
	stands(t, "the other", c, n)
	goes(t, c, n)
	stands(t, "the first", b, m)
}
