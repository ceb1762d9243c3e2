package audit

import (
	"math"
	"slices"
	"testing"

	"courier/api"
)

// P2103: the order of lists.

// rising are things that are seen, each ahead of the next by its own field; the fields behind that fall.
func rising() []api.Seen {
	full := api.Seen{Kind: 9, Side: 9, Text: []byte("zz"), Control: "zz", Number: 9, Again: true, State: 9, Code: "zz", Errors: []api.Finding{{Code: 9}, {Code: 9}}, Errno: 9}
	var list []api.Seen
	put := func(change func(s *api.Seen)) {
		s := full
		change(&s)
		list = append(list, s)
	}
	for _, n := range []int{math.MinInt, -1, 0, 1, 8} {
		put(func(s *api.Seen) { s.Kind = api.SeenKind(n) })
	}
	for _, n := range []int{-1, 0, 1, 2} {
		put(func(s *api.Seen) { s.Side = n })
	}
	for _, text := range []string{"", "\x00", "\x00\x00", "\x01", "A", "a", "a\x00", "aa", "b", "\x80", "\xff"} {
		if text < "zz" {
			put(func(s *api.Seen) { s.Text = []byte(text) })
		}
	}
	for _, text := range []string{"", "A", "B", "a", "aa", "z"} {
		put(func(s *api.Seen) { s.Control = text })
	}
	for _, n := range []int{-1, 0, 1, 8} {
		put(func(s *api.Seen) { s.Number = n })
	}
	put(func(s *api.Seen) { s.Again = false })
	for _, n := range []int{-1, 0, 3} {
		put(func(s *api.Seen) { s.State = n })
	}
	for _, text := range []string{"", "AA", "AR", "CA", "z"} {
		put(func(s *api.Seen) { s.Code = text })
	}
	for _, found := range risingFindings() {
		put(func(s *api.Seen) { s.Errors = found })
	}
	for _, n := range []int{-1, 0, 8, 9} {
		put(func(s *api.Seen) { s.Errno = api.Errno(n) })
	}
	return list
}

func risingFindings() [][]api.Finding {
	lists := [][]api.Finding{nil, {{}}, {{}, {}}}
	full := api.Finding{Code: 5, Seg: "PID", Occur: 5, Field: 5, Rep: 5, Comp: 5, Sub: 5}
	for _, change := range []func(f *api.Finding){
		func(f *api.Finding) { f.Code = 4 },
		func(f *api.Finding) { f.Seg = "" },
		func(f *api.Finding) { f.Seg = "PI" },
		func(f *api.Finding) { f.Occur = 4 },
		func(f *api.Finding) { f.Field = 4 },
		func(f *api.Finding) { f.Rep = 4 },
		func(f *api.Finding) { f.Comp = 4 },
		func(f *api.Finding) { f.Sub = 4 },
		func(f *api.Finding) {},
	} {
		f := full
		change(&f)
		lists = append(lists, []api.Finding{f})
	}
	return append(lists, []api.Finding{full, {}}, []api.Finding{full, full})
}

func sign(n int) int { return min(1, max(-1, n)) }

func TestOrderOfSeen(t *testing.T) {
	list := rising()
	for i, a := range list {
		for k, b := range list {
			want := sign(i - k)
			// Texts above that of the full one stand apart.
			if got := sign(compareSeen(a, b)); got != want {
				t.Errorf("%+v, %+v: %d, want %d", a, b, got, want)
			}
			if got := sign(compareLists([]api.Seen{a}, []api.Seen{b})); got != want {
				t.Errorf("lists of %+v, %+v: %d, want %d", a, b, got, want)
			}
		}
	}
}

func TestOrderOfLists(t *testing.T) {
	a, b := up(0), up(1)
	list := [][]api.Seen{nil, {a}, {a, a}, {a, a, b}, {a, b}, {a, b, a}, {b}, {b, a}}
	for i := range list {
		for k := range list {
			if got := sign(compareLists(list[i], list[k])); got != sign(i-k) {
				t.Errorf("%d, %d: %d", i, k, got)
			}
		}
	}
	if compareLists(nil, []api.Seen{}) != 0 || compareSeen(api.Seen{Text: []byte{}, Errors: []api.Finding{}}, api.Seen{}) != 0 {
		t.Error("nil and empty are not the same")
	}
}

// The lists of May are in this order, and no two are the same: of many records that were torn, under control ids that do not rise.
func TestOrderOfMay(t *testing.T) {
	p := begun(t, roomy(plainSetup()))
	for _, id := range []string{"m", "Z", "a", "b", "B", "10", "9"} {
		goes(t, p, submitting(0, message(id, "", "")))
		goes(t, p, submitting(0, message("N"+id, "", "NE NE")))
	}
	goes(t, p, crashing(0, 5, 5), down(0))
	goes(t, p, fusing(0, 1))
	lists, err := p.May(restarting(0))
	if err != nil || len(lists) != 16 {
		t.Fatalf("%d lists, %v", len(lists), err)
	}
	texts := make([]string, len(lists))
	for i, l := range lists {
		texts[i] = told(l)
	}
	if !slices.IsSorted(texts) || len(slices.Compact(texts)) != len(lists) {
		t.Errorf("the lists\n%s", shownAll(lists))
	}
}
