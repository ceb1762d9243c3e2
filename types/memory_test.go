package types

import (
	"math/rand"
	"slices"
	"strings"
	"testing"

	"courier/api"
)

// spoil overwrites a list and the room behind it.
func spoil[T any](l []T, with T) {
	l = l[:cap(l)]
	for i := range l {
		l[i] = with
	}
}

func TestP809ListsAreNew(t *testing.T) {
	for _, kind := range allNames() {
		kinds, must, _ := Parts(kind)
		wantKinds, wantMust := slices.Clone(kinds), slices.Clone(must)
		spoil(kinds, "spoiled")
		if !slices.Equal(must, wantMust) {
			t.Errorf("Parts(%s): the lists share memory", kind)
		}
		spoil(must, true)
		if k, m, _ := Parts(kind); !slices.Equal(k, wantKinds) || !slices.Equal(m, wantMust) {
			t.Errorf("Parts(%s) a second time: %v, %v", kind, k, m)
		}
	}
	for n := range 600 {
		l, err := Table(n)
		if err != nil {
			continue
		}
		want := slices.Clone(l)
		spoil(l, "spoiled")
		if again, _ := Table(n); !slices.Equal(again, want) {
			t.Errorf("Table(%d) a second time: %v", n, again)
		}
	}
}

// TestP809ArgumentsStay: what is handed in is neither kept nor changed, nor the room behind it.
func TestP809ArgumentsStay(t *testing.T) {
	rnd := rand.New(rand.NewSource(809))
	for range 3000 {
		r := randomRep(rnd)
		wide := api.Rep{Comps: make([]api.Comp, len(r.Comps), len(r.Comps)+3)}
		copy(wide.Comps, r.Comps)
		spoil(wide.Comps[len(wide.Comps):], api.Comp{Subs: []string{"room"}})
		for c := range wide.Comps {
			wide.Comps[c].Subs = append(slices.Clone(wide.Comps[c].Subs), "room")[:len(r.Comps[c].Subs)]
		}
		before := cloneRep(r)
		kind := compositeNames[rnd.Intn(len(compositeNames))]
		l, err := Check(common, kind, wide)
		first := slices.Clone(l)
		_, viewErr := View[[3]string](common, "HD", wide)
		if !sameRep(wide, before) {
			t.Fatalf("%v was changed: %v", before, wide)
		}
		for _, c := range wide.Comps[len(wide.Comps):cap(wide.Comps)] {
			if !slices.Equal(c.Subs, []string{"room"}) {
				t.Fatalf("the room behind was changed: %v", c)
			}
		}
		for _, c := range wide.Comps {
			if behind := c.Subs[:len(c.Subs)+1]; behind[len(behind)-1] != "room" {
				t.Fatalf("the room behind was changed: %q", behind)
			}
		}
		spoil(l, api.Flaw{Comp: -1, Sub: -1, Code: -1})
		again, errAgain := Check(common, kind, wide)
		_, viewAgain := View[[3]string](common, "HD", wide)
		if !slices.Equal(again, first) || (err == nil) != (errAgain == nil) || (viewErr == nil) != (viewAgain == nil) {
			t.Fatalf("Check(%s, %s) a second time: %v, %v, first %v, %v", kind, wireOf(wide), again, errAgain, first, err)
		}
	}
}

func TestP809LayIsNew(t *testing.T) {
	for kind, texts := range firstRight {
		handed := slices.Clone(texts)
		r, err := layOf(common, kind, handed)
		s, _ := layOf(common, kind, handed)
		if err != nil || !slices.Equal(handed, texts) {
			t.Fatalf("Lay(%s): %v, %q", kind, err, handed)
		}
		want := cloneRep(s)
		for c := range r.Comps {
			before := cloneRep(r)
			spoil(r.Comps[c].Subs, "spoiled")
			for d := range r.Comps {
				if d != c && !slices.Equal(r.Comps[d].Subs, before.Comps[d].Subs) {
					t.Errorf("Lay(%s): components %d and %d share memory", kind, c, d)
				}
			}
		}
		spoil(r.Comps, api.Comp{})
		if !sameRep(s, want) {
			t.Errorf("Lay(%s): two answers share memory", kind)
		}
		if again, _ := layOf(common, kind, handed); !sameRep(again, want) {
			t.Errorf("Lay(%s) a second time: %v", kind, again)
		}
	}
}

// TestP809NoPanic hands all calls what is mostly wrong.
func TestP809NoPanic(t *testing.T) {
	rnd := rand.New(rand.NewSource(8090))
	texts := append(slices.Clone(someWires), noKinds...)
	texts = append(texts, strings.Repeat("x", 9000), "ID", "ID00", "-", "+")
	texts = append(texts, allNames()...)
	pick := func() string { return texts[rnd.Intn(len(texts))] }
	for range 20000 {
		m := api.Marks{Field: byte(rnd.Intn(256)), Comp: byte(rnd.Intn(256)), Rep: '~', Esc: byte(rnd.Intn(256)), Sub: '&'}
		if rnd.Intn(2) == 0 {
			m = common
		}
		r := randomRep(rnd)
		Known(pick())
		Parts(pick())
		Table(rnd.Intn(1000) - 200)
		Text(pick(), pick())
		Check(m, pick(), r)
		View[[2]string](m, pick(), r)
		View[[9]string](m, pick(), r)
		Lay(m, pick(), [3]string{pick(), pick(), pick()})
		n, _ := Decimal(pick())
		odd := api.Number{Neg: rnd.Intn(2) == 0, Digits: pick(), Scale: rnd.Intn(40) - 10}
		Print(odd)
		Compare(odd, n)
		Compare(n, odd)
	}
}
