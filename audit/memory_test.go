package audit

import (
	"fmt"
	"math/rand/v2"
	"slices"
	"testing"
	"unsafe"

	"courier/api"
)

// P2108: memory, two Pairs, and that no call panics.

// spaced gives bytes with room behind them, and a look at all of it.
func spaced(b []byte) ([]byte, []byte) {
	all := append(slices.Clone(b), "room behind"...)
	return all[:len(b)], all
}

// holder hands events in from memory of its own, and writes over it.
type holder struct {
	events []api.Event
	texts  [][]byte
	found  [][]api.Finding
}

func (h *holder) event(e api.Event) api.Event {
	text, all := spaced(e.Text)
	h.texts = append(h.texts, all)
	found := append(slices.Clone(e.Errors), api.Finding{Code: 7, Seg: "room"})
	h.found = append(h.found, found)
	e.Text, e.Errors = text, found[:len(e.Errors)]
	h.events = append(h.events, e)
	return e
}

func (h *holder) seen(list []api.Seen) []api.Seen {
	mine := slices.Clone(list)
	for i := range mine {
		text, all := spaced(mine[i].Text)
		h.texts = append(h.texts, all)
		found := append(slices.Clone(mine[i].Errors), api.Finding{Code: 7, Seg: "room"})
		h.found = append(h.found, found)
		mine[i].Text, mine[i].Errors = text, found[:len(mine[i].Errors)]
	}
	return mine
}

func (h *holder) text() string { return fmt.Sprintf("%q %v", h.texts, h.found) }

// spoil writes over all that was handed in.
func (h *holder) spoil() {
	for _, b := range h.texts {
		for i := range b {
			b[i] = 0x1C
		}
	}
	for _, list := range h.found {
		for i := range list {
			list[i] = api.Finding{Code: -1, Seg: "spoilt"}
		}
	}
}

// spoilAnswers writes over what was answered, room behind its ends too.
func spoilAnswers(lists [][]api.Seen) {
	for _, l := range lists {
		l = l[:cap(l)]
		for i := range l {
			text, found := l[i].Text[:cap(l[i].Text)], l[i].Errors[:cap(l[i].Errors)]
			for k := range text {
				text[k] = 0x1C
			}
			for k := range found {
				found[k] = api.Finding{Code: -1, Seg: "spoilt"}
			}
			l[i] = api.Seen{Kind: 77}
		}
	}
}

// What is handed in is neither kept nor changed, and what is answered is the holder's: written over all the time, a Pair goes on as one that is left alone.
func TestMemoryIsWrittenOver(t *testing.T) {
	for seed := range seeds(60) {
		s, events, seen := run(t, 8000+uint64(seed), 100)
		p, alone := begun(t, s), begun(t, s)
		for i, e := range events {
			h := &holder{}
			mine, list := h.event(e), h.seen(seen[i+1])
			before := h.text()
			first, err := p.May(mine)
			if err != nil {
				break
			}
			want := shownAll(first)
			spoilAnswers(first)
			second, _ := p.May(mine)
			if got := shownAll(second); got != want {
				t.Fatalf("seed %d: May tells\n%s\nand then\n%s", seed, want, got)
			}
			if err := p.Step(mine, list); err != nil {
				t.Fatal(err)
			}
			if h.text() != before {
				t.Fatalf("seed %d: what was handed in was changed", seed)
			}
			h.spoil()
			spoilAnswers(second)
			steps(t, alone, e, seen[i+1]...)
			if len(p.spots) != len(alone.spots) {
				t.Fatalf("seed %d: %d states, left alone %d", seed, len(p.spots), len(alone.spots))
			}
		}
	}
}

func TestJudgeKeepsNothing(t *testing.T) {
	s, events, seen := run(t, 9000, 120)
	h := &holder{}
	var mine []api.Event
	var lists [][]api.Seen
	for i := range events {
		mine = append(mine, h.event(events[i]))
	}
	for i := range seen {
		lists = append(lists, h.seen(seen[i]))
	}
	before := h.text() + fmt.Sprintf("%+v %+v", mine, lists)
	if at, err := Judge(s, mine, lists); at != 0 || err != nil {
		t.Fatalf("%d, %v", at, err)
	}
	if h.text()+fmt.Sprintf("%+v %+v", mine, lists) != before {
		t.Error("what was handed in was changed")
	}
}

// stretch is where a list lies, with the room behind it.
type stretch struct{ from, to uintptr }

func stretchOf[T any](list []T) stretch {
	if cap(list) == 0 {
		return stretch{}
	}
	from := uintptr(unsafe.Pointer(unsafe.SliceData(list)))
	return stretch{from, from + uintptr(cap(list))*unsafe.Sizeof(list[0])}
}

// No two lists of an answer share memory, nor of two answers.
func TestListsShareNothing(t *testing.T) {
	p := begun(t, plainSetup())
	for _, id := range []string{"A1", "A2", "A3"} {
		goes(t, p, submitting(0, message(id, "", "AL AL")))
	}
	goes(t, p, crashing(0, 5, 5), down(0))
	var all []stretch
	for range 2 {
		lists, err := p.May(restarting(0))
		if err != nil || len(lists) != 4 {
			t.Fatalf("%v, %v", lists, err)
		}
		all = append(all, stretchOf(lists))
		for _, l := range lists {
			all = append(all, stretchOf(l))
			for _, s := range l {
				all = append(all, stretchOf(s.Text), stretchOf(s.Errors))
			}
		}
	}
	for i, a := range all {
		for _, b := range all[:i] {
			if a.from < b.to && b.from < a.to {
				t.Fatalf("%v and %v share memory", a, b)
			}
		}
	}
}

// Findings that are told are new memory too.
func TestFindingsShareNothing(t *testing.T) {
	d := newDuo(t, plainSetup())
	d.does(submitting(0, message("A1", "", "")))
	d.does(syncing(0))
	d.does(putting(1, heard("AE", "A1", "", "ERR||"+report(101, 3))))
	d.does(carrying(1, 0, 0))
	first, _ := d.p.May(syncing(0))
	spoilAnswers(first)
	d.sees(syncing(0), answered(0, "A1", "AE", api.Finding{Code: 101, Seg: "MSH", Occur: 1, Field: 3, Rep: 1}))
}

// Pairs that are stepped in turns go on as each by itself does.
func TestPairsKnowNothingOfOneAnother(t *testing.T) {
	type one struct {
		p      *Pair
		events []api.Event
		seen   [][]api.Seen
	}
	var list []*one
	for seed := range 12 {
		s, events, seen := run(t, 9100+uint64(seed%6), 120)
		list = append(list, &one{begun(t, s), events, seen[1:]})
	}
	c := rand.New(rand.NewPCG(2108, 1))
	for len(list) > 0 {
		at := c.IntN(len(list))
		x := list[at]
		if len(x.events) == 0 {
			list = slices.Delete(list, at, at+1)
			continue
		}
		if c.IntN(3) == 0 {
			x.p.May(x.events[c.IntN(len(x.events))])
		}
		steps(t, x.p, x.events[0], x.seen[0]...)
		x.events, x.seen = x.events[1:], x.seen[1:]
	}
}

// A Pair may be asked by several at once: May changes nothing.
func TestMayChangesNothing(t *testing.T) {
	s, events, seen := run(t, 9200, 120)
	p := begun(t, s)
	for i, e := range events {
		want, err := p.May(e)
		if err != nil {
			t.Fatal(err)
		}
		done := make(chan string)
		for range 4 {
			go func() {
				for _, other := range events[max(0, i-3):i] {
					p.May(other)
				}
				got, _ := p.May(e)
				done <- shownAll(got)
			}()
		}
		for range 4 {
			if got := <-done; got != shownAll(want) {
				t.Errorf("May tells\n%s\nand then\n%s", shownAll(want), got)
			}
		}
		steps(t, p, e, seen[i+1]...)
	}
}

// Whatever is handed in.
func TestNoPanics(t *testing.T) {
	c := rand.New(rand.NewPCG(2108, 2))
	number := func() int { return oneOf(&chance{Rand: c}, 0, 0, 0, 0, 1, 1, 2, 5, -1, 10000, 1<<62, -1<<63) }
	text := func() string {
		return oneOf(&chance{Rand: c}, "", "", "A1", "AA", "AE", message("A1", "", "AL AL"), "MSH|^~\\&|", "\x0b\x1c\r", "MSH\x00\x01\x02\x03\x04", string(framed(message("A1", "1", "AL AL"))))
	}
	for range 300 {
		p, _ := New(anySetup(c))
		for range 60 {
			e := api.Event{Kind: api.EventKind(c.IntN(18)), Side: oneOf(&chance{Rand: c}, 0, 0, 1, 1, 2, -1), Text: []byte(text()), Control: text(), Code: text(), Index: number(), Count: number()}
			if c.IntN(3) > 0 {
				e = narrowed(e)
			}
			lists, err := p.May(e)
			if err != nil {
				p.Step(e, nil)
				continue
			}
			p.Step(e, []api.Seen{{Kind: 99}})
			p.Step(e, lists[c.IntN(len(lists))])
		}
	}
	Judge(api.Setup{Profile: "\x00"}, make([]api.Event, 3), make([][]api.Seen, 9))
}

// narrowed is an event without what its kind does not use.
func narrowed(e api.Event) api.Event {
	for _, k := range kinds() {
		if k.kind != e.Kind {
			continue
		}
		n := api.Event{Kind: e.Kind, Side: max(0, min(e.Side, k.sides-1)), Index: max(k.index.least, min(e.Index, k.index.most)), Count: max(k.count.least, min(e.Count, k.count.most))}
		if k.text {
			n.Text = e.Text
		}
		if k.control {
			n.Control = e.Control
		}
		if k.verdict {
			n.Code = e.Code
		}
		return n
	}
	return e
}
