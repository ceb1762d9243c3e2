package inbox

import (
	"math/rand"
	"slices"
	"testing"

	"courier/api"
)

func oneOf[T any](g *rand.Rand, list []T) T { return list[g.Intn(len(list))] }

// run is an inbox on its way. Few control ids, so that those that have gone come again.
type run struct {
	b    *Box
	m    *model
	ids  int
	tick int
}

func newRun(t *testing.T, g *rand.Rand) *run {
	t.Helper()
	b, m := both(t, oneOf(g, []int{1, 1, 2, 3, 8}), oneOf(g, []int{1, 2, 4, 8}), nil)
	return &run{b: b, m: m, ids: 4 + g.Intn(20)}
}

func (r *run) pickID(g *rand.Rand) string {
	if ids := r.m.open(); len(ids) > 0 && g.Intn(3) > 0 {
		return oneOf(g, ids)
	}
	if g.Intn(12) == 0 {
		return oneOf(g, []string{"", "nobody", "A 1"})
	}
	return name(g.Intn(r.ids))
}

func (r *run) accept(t *testing.T, g *rand.Rand) {
	t.Helper()
	r.tick += g.Intn(2)
	e := api.InEntry{Control: name(g.Intn(r.ids)), Text: []byte{byte(g.Intn(256))}, Number: g.Intn(9), Tick: r.tick, Commit: make([]byte, g.Intn(3))}
	switch g.Intn(24) {
	case 0:
		e.Tick -= g.Intn(3)
	case 1:
		e.Code = oneOf(g, []string{"AA", "CA"})
	case 2:
		e.Text = make([]byte, oneOf(g, []int{0, 8192, 8193}))
	case 3:
		e.Answer = []byte("y")
	case 4:
		e.Control = oneOf(g, []string{"", "A 1", "nobody"})
	}
	accepts(t, r.b, r.m, e)
}

func (r *run) decide(t *testing.T, g *rand.Rand) {
	t.Helper()
	id, code, answer := r.pickID(g), oneOf(g, verdicts()), make([]byte, g.Intn(4))
	switch g.Intn(20) {
	case 0:
		code = oneOf(g, wrongCodes())
	case 1:
		answer = make([]byte, oneOf(g, []int{2048, 2049}))
	}
	decides(t, r.b, r.m, id, code, answer)
}

// step makes one call, and looks at what P1507 says: of the open ones only the decided one may go, the last one never.
func (r *run) step(t *testing.T, g *rand.Rand) {
	t.Helper()
	was, _ := r.b.Last()
	if g.Intn(2) == 0 {
		r.accept(t, g)
	} else {
		r.decide(t, g)
	}
	if _, ok := r.b.Find(was.Control); !ok && was.Control != "" {
		t.Fatalf("the last one, %s, has gone", was.Control)
	}
	if n, open := r.b.Count(); n-open > r.m.keep+1 || open > r.m.room {
		t.Fatalf("%d are kept, %d of them open", n, open)
	}
}

func TestP1507RunsAnswerAsTheModel(t *testing.T) {
	g := rand.New(rand.NewSource(1507))
	for range 300 {
		r := newRun(t, g)
		for range 150 {
			r.step(t, g)
		}
	}
}

// again makes the inbox anew from what it tells; the old one goes on to be what it was.
func (r *run) again(t *testing.T) {
	t.Helper()
	old := r.b
	r.b = load(t, r.m.keep, r.m.room, old.List())
	stands(t, "the old one", old, r.m)
	stands(t, "made anew", r.b, r.m)
}

func TestP1508LoadOfWhatListTells(t *testing.T) {
	g := rand.New(rand.NewSource(1508))
	for range 150 {
		r := newRun(t, g)
		for range 150 {
			r.step(t, g)
			if g.Intn(10) == 0 {
				r.again(t)
			}
		}
	}
}

// The one that was made anew and the old one answer each call alike from then on.
func TestP1508BothGoOnAlike(t *testing.T) {
	g := rand.New(rand.NewSource(1509))
	for range 60 {
		r := newRun(t, g)
		for range 60 {
			r.step(t, g)
		}
		other := &run{load(t, r.m.keep, r.m.room, r.b.List()), &model{r.m.keep, r.m.room, deep(r.m.ever)}, r.ids, r.tick}
		seed := g.Int63()
		one, two := rand.New(rand.NewSource(seed)), rand.New(rand.NewSource(seed))
		for range 60 {
			r.step(t, one)
			other.step(t, two)
			if !slices.EqualFunc(r.b.List(), other.b.List(), isSame) {
				t.Fatalf("%v, %v", r.b.List(), other.b.List())
			}
		}
	}
}

func TestP1508AtTheBounds(t *testing.T) {
	b, m := both(t, mostOld, mostIn, nil)
	for i := range mostOld + 1 {
		accepts(t, b, m, open(i))
		wentBy(t, b, m, name(i))
	}
	for i := range mostIn {
		accepts(t, b, m, open(100+i))
	}
	r := &run{b: b, m: m}
	r.again(t)
	accepts(t, r.b, m, open(900))
	for i := range mostIn {
		wentBy(t, r.b, m, name(100+i), name(i))
		r.again(t)
	}
}

func TestP1509InboxesInTurns(t *testing.T) {
	g := rand.New(rand.NewSource(1510))
	var runs []*run
	for range 4 {
		runs = append(runs, newRun(t, g))
	}
	for range 1500 {
		oneOf(g, runs).step(t, g)
		for _, r := range runs {
			tells(t, "in turns", r.b, r.m)
		}
	}
}
