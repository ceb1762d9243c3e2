package ledger

import (
	"math/rand/v2"
	"slices"
	"testing"

	"courier/api"
	"courier/inbox"
	"courier/outbox"
	"courier/seq"
)

// P1611: what a record makes, held against the calls of layers 12, 14 and 15 for which it stands.

func boxOf(t *testing.T, terms api.Terms, list []api.Out) *outbox.Box {
	t.Helper()
	b, err := outbox.Load(list, terms.Sends, api.MaxTries)
	done(t, err)
	return b
}

func outsOf(b *outbox.Box) []api.Out {
	var list []api.Out
	for _, s := range b.List() {
		list = append(list, s.Out)
	}
	return list
}

// goesOut lets messages go out until that one is under way; where that can't be: false.
func goesOut(t *testing.T, b *outbox.Box, control string) bool {
	t.Helper()
	for {
		o, ok := b.Next()
		if !ok {
			return false
		}
		if _, err := b.Go(); err != nil {
			return false // a head without its number
		}
		if o.Control == control {
			_, err := b.Get(control)
			return err == nil // else its first sending has closed it
		}
	}
}

func has(deeds []api.Deed, kind int) bool {
	return slices.ContainsFunc(deeds, func(d api.Deed) bool { return d.Kind == kind })
}

// tellsAs: a box has this message, among these, as the other list has it.
func tellsAs(t *testing.T, b *outbox.Box, y []api.Out, control string) {
	t.Helper()
	s, err := b.Get(control)
	if at := placeIn(y, control); err != nil || at < 0 || !isSameOut(s.Out, y[at]) {
		t.Fatalf("%+v, %v; want that of %+v", s, err, y)
	}
}

// steps counts how often each kind of record was held against a call.
type steps map[string]int

// out holds kinds 1 to 4 against an outbox.
func (n steps) out(t *testing.T, terms api.Terms, x, y api.Tables, r api.Record) {
	t.Helper()
	b := boxOf(t, terms, x.Out)
	switch r.Kind {
	case 1:
		done(t, b.Add(r.Control, r.Text, r.Cond))
		n["Add"]++
	case 2:
		n.renumbered(t, terms, x, y, r)
		done(t, b.Give(r.Number))
		n["Give"]++
	case 3:
		if !goesOut(t, b, r.Control) {
			return
		}
		deeds, err := b.Heard(r.Control, "CA", 0)
		done(t, err)
		if has(deeds, api.ActNote) {
			tellsAs(t, b, y.Out, r.Control)
			n["Note"]++
		}
		return
	case 4:
		n.ended(t, b, y, r)
		return
	}
	if !slices.EqualFunc(outsOf(b), y.Out, isSameOut) || !slices.EqualFunc(outsOf(boxOf(t, terms, y.Out)), outsOf(b), isSameOut) {
		t.Fatalf("kind %d: %+v, want %+v", r.Kind, outsOf(b), y.Out)
	}
}

// renumbered: the partner has told a head under way the number that it expects.
func (n steps) renumbered(t *testing.T, terms api.Terms, x, y api.Tables, r api.Record) {
	t.Helper()
	for _, code := range []string{"CE", "AE"} {
		b := boxOf(t, terms, x.Out)
		if !goesOut(t, b, r.Control) {
			return
		}
		deeds, err := b.Heard(r.Control, code, r.Number)
		done(t, err)
		if has(deeds, api.ActNumber) {
			tellsAs(t, b, y.Out, r.Control)
			n["Number"]++
		}
	}
}

// ended: a message has left the box.
func (n steps) ended(t *testing.T, b *outbox.Box, y api.Tables, r api.Record) {
	t.Helper()
	if !goesOut(t, b, r.Control) {
		return
	}
	over := false
	if r.State == api.WantAnswered {
		deeds, err := b.Heard(r.Control, r.Code, 0)
		done(t, err)
		over = has(deeds, api.ActFinal)
	} else {
		for range api.MaxTries + 2 {
			deeds, err := b.Due(r.Control)
			if over = err == nil && has(deeds, api.ActFinal); over {
				break
			}
		}
	}
	if !over {
		return // its CA was noted by this, and not its end
	}
	n["Final"]++
	if _, err := b.Get(r.Control); err == nil || placeIn(y.Out, r.Control) >= 0 {
		t.Fatalf("%s is there still: %v", r.Control, err)
	}
	for _, s := range b.List() {
		tellsAs(t, b, y.Out, s.Control)
	}
}

// in holds kinds 5 and 6 against an inbox.
func (n steps) in(t *testing.T, terms api.Terms, x, y api.Tables, r api.Record) {
	t.Helper()
	b, err := inbox.Load(terms.Keep, api.MaxIn, x.In)
	done(t, err)
	if r.Kind == 5 {
		done(t, b.Accept(api.InEntry{Control: r.Control, Text: r.Text, Number: r.Number, Tick: r.Tick, Commit: r.Commit}))
		n["Accept"]++
	} else {
		gone, err := b.Decide(r.Control, r.Code, r.Answer)
		done(t, err)
		for _, id := range gone {
			if placeOfEntry(y.In, id) >= 0 {
				t.Fatalf("%s has not gone", id)
			}
			n["gone"]++
		}
		n["Decide"]++
	}
	c, err := inbox.Load(terms.Keep, api.MaxIn, y.In)
	done(t, err)
	if !slices.EqualFunc(b.List(), y.In, isSameIn) || !slices.EqualFunc(c.List(), y.In, isSameIn) || !slices.Equal(b.Open(), c.Open()) {
		t.Fatalf("kind %d: %+v, want %+v", r.Kind, b.List(), y.In)
	}
}

// numbers holds what a record makes of the counters against layer 12.
func (n steps) numbers(t *testing.T, terms api.Terms, x, y api.Tables, r api.Record) {
	t.Helper()
	s, err := seq.NewSender(x.Next)
	done(t, err)
	v, err := seq.NewReceiver(x.Expects, x.Last)
	done(t, err)
	switch {
	case r.Kind == 2 && x.Next == r.Number:
		got, err := s.Take()
		if err != nil || got != r.Number {
			t.Fatalf("Take: %d, %v", got, err)
		}
		n["Take"]++
	case r.Kind == 2:
		got, err := s.Back(1+r.Number%2, r.Number) // another number was the message's: 2 if this one is odd, else 1
		if err != nil || got != r.Number {
			t.Fatalf("Back: %d, %v", got, err)
		}
		n["Back"]++
	case r.Kind == 5 && terms.Takes:
		if v.Judge(r.Number) != api.SeqRight {
			t.Fatalf("%d is not right", r.Number)
		}
		done(t, v.Accept(r.Number))
		n["Right"]++
	case r.Kind == 7:
		done(t, s.Set(r.Number))
		n["Set"]++
	case r.Kind == 8:
		done(t, v.Reset())
		n["Reset"]++
	}
	if s.Next() != y.Next || v.Expects() != y.Expects || v.Last() != y.Last {
		t.Fatalf("kind %d: %d, %d, %d; want %d, %d, %d", r.Kind, s.Next(), v.Expects(), v.Last(), y.Next, y.Expects, y.Last)
	}
}

func TestP1611GoesOnAsTheLayersDo(t *testing.T) {
	n := steps{}
	for seed := range 2 {
		d := dice{rand.New(rand.NewPCG(11, uint64(seed)))}
		for _, terms := range slices.Concat(allTerms(1), allTerms(4)) {
			x, err := Begin(terms)
			done(t, err)
			for range 2000 {
				r := d.record(terms, x)
				y, err := Apply(terms, x, r)
				if err != nil {
					continue
				}
				n.numbers(t, terms, x, y, r)
				switch {
				case r.Kind <= 4:
					n.out(t, terms, x, y, r)
				case r.Kind <= 6:
					n.in(t, terms, x, y, r)
				}
				x = y
			}
		}
	}
	for _, what := range []string{"Add", "Give", "Number", "Note", "Final", "Accept", "Decide", "gone", "Take", "Back", "Right", "Set", "Reset"} {
		if n[what] < 10 {
			t.Errorf("%s was held against the tables %d times", what, n[what])
		}
	}
}

// A record may follow just where the call for which it stands is taken.
func TestP1611WhatTheLayersRefuse(t *testing.T) {
	d := dice{rand.New(rand.NewPCG(11, 9))}
	count := map[bool]int{}
	for _, terms := range slices.Concat(allTerms(1), allTerms(3)) {
		x, err := Begin(terms)
		done(t, err)
		for range 3000 {
			r := d.record(terms, x)
			if flawOf(r) != 0 {
				continue
			}
			y, err := Apply(terms, x, r)
			taken := err == nil
			switch r.Kind {
			case 1:
				taken = boxOf(t, terms, x.Out).Add(r.Control, r.Text, r.Cond) == nil
			case 5:
				b, err := inbox.Load(terms.Keep, api.MaxIn, x.In)
				done(t, err)
				v, err := seq.NewReceiver(x.Expects, x.Last)
				done(t, err)
				right := !terms.Takes && r.Number == 0 || terms.Takes && v.Judge(r.Number) == api.SeqRight
				taken = right && b.Accept(api.InEntry{Control: r.Control, Text: r.Text, Number: r.Number, Tick: r.Tick, Commit: r.Commit}) == nil
			case 6:
				b, err := inbox.Load(terms.Keep, api.MaxIn, x.In)
				done(t, err)
				_, err = b.Decide(r.Control, r.Code, r.Answer)
				taken = err == nil
			}
			if taken != (err == nil) {
				t.Fatalf("%+v: the layer %v, Apply %v", r, taken, err)
			}
			count[taken]++
			if err == nil {
				x = y
			}
		}
	}
	if count[true] < 1000 || count[false] < 1000 {
		t.Errorf("%v", count)
	}
}
