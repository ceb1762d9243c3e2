package engine

import (
	"fmt"
	"math/rand/v2"
	"slices"
	"strings"
	"testing"

	"courier/api"
	"courier/disk"
)

// P1812, P1813; W2.

// torn gives the disk as a crash would leave it, with the one that it is left alone.
func torn(t *testing.T, d *disk.Disk, tears [2]api.Tear) *disk.Disk {
	t.Helper()
	var areas [2][]byte
	for area, image := range d.Image() {
		n, _ := d.Len(area)
		all, err := d.Read(area, 0, n)
		if err != nil {
			t.Fatal(err)
		}
		tail := len(all) - len(image)
		keep := min(tears[area].Keep, tail)
		areas[area] = append(all[:len(image)+keep:len(image)+keep], make([]byte, min(tears[area].Zeros, tail-keep))...)
	}
	copied, err := disk.From(areas)
	if err != nil {
		t.Fatal(err)
	}
	return copied
}

// P1813: behind a sync, with nothing under way, another engine has the same tables.
func TestReopened(t *testing.T) {
	s := roomy(numbers())
	s.Sides[1].Sequence = true
	r := start(t, s, 1)
	r.arrive(framed(of("A1", "1", "AL AL")))
	r.arrive(framed(of("A2", "2", "")))
	r.e.Sync()
	r.verdict("A1", "AE", []api.Finding{{Code: 101}})
	r.submit(of("B1", "", "AL NE"))
	r.e.Sync()
	r.arrive(heard("CA", "B1", ""))
	r.arrive(asking("R1", "-1"))
	r.arrive(framed(of("A3", "50", "NE NE")))
	for _, end := range []func() ([]api.Seen, error){r.e.Sync, r.e.Compact} {
		if _, err := end(); err != nil {
			t.Fatal(err)
		}
		for _, d := range []*disk.Disk{torn(t, r.d, [2]api.Tear{}), torn(t, r.d, [2]api.Tear{{Keep: 9, Zeros: 9}, {Keep: 9, Zeros: 9}})} {
			e, seen, err := Open(s, 1, d, 8)
			if err != nil {
				t.Fatal(err)
			}
			lines := allTold(t, 1, seen)
			want := []string{"up", "deliver A2 2 again " + original("A2"), "deliver A3 50 again " + of("A3", "", "NE NE")}
			if !slices.Equal(lines, want) {
				t.Errorf("seen %q", lines)
			}
			if got, want := fmt.Sprint(e.Image().Tables), fmt.Sprint(r.e.Image().Tables); got != want {
				t.Errorf("tables %s, want %s", got, want)
			}
		}
	}
	// What is outstanding without sequencing is there, too, and so it stays: nothing is written.
	r = start(t, roomy(pair()), 0)
	for _, id := range []string{"B2", "B1"} {
		r.submit(always(id))
	}
	r.arrive(heard("CA", "B2", ""))
	r.e.Sync()
	want := fmt.Sprint(r.e.Image().Tables)
	r.restart([2]api.Tear{}, 0, "out "+always("B2"), "out "+always("B1"))
	if got := fmt.Sprint(r.e.Image().Tables); got != want || r.e.Image().Written != 0 {
		t.Errorf("tables %s, want %s", got, want)
	}
}

// promise is what a side has told the other one: of this message, by these bytes.
type promise struct{ id, text, out string }

// keeps: W2: on what a crash leaves at this moment, whatever it tears, the message is kept and a copy answered with the same bytes.
func (p promise) keeps(t *testing.T, r *rig, now int, tears [2]api.Tear) {
	t.Helper()
	e, seen, err := Open(r.setup, r.side, torn(t, r.d, tears), now)
	if err != nil {
		t.Fatal(err)
	}
	for _, s := range seen {
		if s.Kind == api.SeenDeliver && !s.Again {
			t.Fatalf("delivered as new: %+v", s)
		}
	}
	in := e.Image().Tables.In
	at := slices.IndexFunc(in, func(x api.InEntry) bool { return x.Control == p.id })
	if at < 0 || string(in[at].Text) != p.text {
		t.Fatalf("%s is not kept: %+v", p.id, in)
	}
	again, err := e.Arrive(framed(p.text))
	if err != nil {
		t.Fatal(err)
	}
	if lines := allTold(t, r.side, again); !slices.Contains(lines, p.out) || slices.ContainsFunc(lines, func(l string) bool { return strings.HasPrefix(l, "deliver") }) {
		t.Errorf("a copy is answered by %q, want %q", lines, p.out)
	}
}

// W2: runs in which at every frame that tells of a message the disk is looked at as crashes might leave it.
func TestWhatWasToldIsKept(t *testing.T) {
	for seed := range 60 {
		c := rand.New(rand.NewPCG(uint64(seed), 2))
		s := pair()
		s.Sides[1].Keep, s.Sides[1].Compact = 64, 1+c.IntN(12)
		r := start(t, s, 1)
		texts := map[string]string{}
		looked := func(seen []api.Seen, err error) {
			if err != nil {
				t.Fatal(err)
			}
			for _, line := range allTold(t, 1, seen) {
				for id, text := range texts {
					if strings.Contains(line, "\rMSA|CA|"+id+"\r") || strings.Contains(line, "\rMSA|AA|"+id+"\r") {
						tear := api.Tear{Keep: c.IntN(300), Zeros: c.IntN(100)}
						promise{id, text, line}.keeps(t, r, r.e.Image().Now, [2]api.Tear{tear, tear})
						promise{id, text, line}.keeps(t, r, r.e.Image().Now, [2]api.Tear{})
					}
				}
			}
		}
		for i := range 40 {
			switch x := r.e.Image(); {
			case c.IntN(3) == 0 && len(x.Tables.In)-len(x.Open) < 30:
				id := fmt.Sprintf("A%d", i)
				texts[id] = of(id, "", []string{"", "AL AL", "SU NE", "AL AL"}[c.IntN(4)])
				looked(r.e.Arrive(framed(texts[id])))
			case c.IntN(2) == 0 && len(x.Open) > 0:
				looked(r.e.Verdict(x.Open[c.IntN(len(x.Open))], "AA", nil))
			case c.IntN(3) == 0:
				looked(r.e.Sync())
			case len(texts) > 0 && c.IntN(2) == 0:
				for _, text := range texts {
					looked(r.e.Arrive(framed(text)))
					break
				}
			default:
				looked(r.e.Tick(1 + c.IntN(3)))
			}
		}
	}
}

// Whatever a crash tears in front of a record that was not durable: what was told to the other side or to the application stands.
func TestTears(t *testing.T) {
	s := roomy(numbers())
	s.Sides[1].Sequence = true
	r := start(t, s, 0)
	r.submit(always("A1"))
	r.arrive(framed(strings.Replace(of("I1", "1", "AL AL"), "LAB", "HIS", 1)))
	r.e.Sync()
	safe := fmt.Sprint(r.e.Image().Tables)
	states := []string{safe}
	for _, step := range []func(e *Engine) ([]api.Seen, error){
		arriving(heard("CA", "A1", "")), judging("I1", "AA", nil), submitting(original("A2")), arriving(framed(of("I2", "2", ""))), arriving(heard("AA", "A1", "")),
	} {
		before := r.e.Image().Written
		if seen, err := step(r.e); err != nil || len(seen) != 0 {
			t.Fatalf("%v, %v", seen, err)
		}
		if after := r.e.Image().Written; after == before {
			t.Fatal("nothing is written")
		}
		states = append(states, fmt.Sprint(r.e.Image().Tables))
	}
	found := map[string]int{}
	size, _ := r.d.Len(1)
	for keep := range size + 1 {
		for _, zeros := range []int{0, 1, 50} {
			d := torn(t, r.d, [2]api.Tear{{}, {Keep: keep, Zeros: zeros}})
			e, seen, err := Open(s, 0, d, 0)
			if err != nil {
				t.Fatalf("%d bytes: %v", keep, err)
			}
			lines := allTold(t, 0, seen)
			x := e.Image()
			found[fmt.Sprint(x.Tables)]++
			// A1 has its number, and I1 was delivered: neither is lost, whatever is.
			if at := slices.IndexFunc(x.Tables.In, func(i api.InEntry) bool { return i.Control == "I1" }); at < 0 || x.Tables.Last < 1 {
				t.Fatalf("%d bytes: tables %+v", keep, x.Tables)
			}
			if out := "out " + of("A1", "1", "AL AL"); len(x.Tables.Out) > 0 && x.Tables.Out[0].Control == "A1" && !slices.Contains(lines, out) {
				t.Fatalf("%d bytes: seen %q", keep, lines)
			}
			// Nothing is told twice, and no telling is made up.
			if slices.ContainsFunc(lines, func(l string) bool { return strings.HasPrefix(l, "answer") }) {
				t.Fatalf("%d bytes: seen %q", keep, lines)
			}
		}
	}
	for _, want := range states[:4] {
		if found[want] == 0 {
			t.Errorf("never left: %s", want)
		}
	}
}
