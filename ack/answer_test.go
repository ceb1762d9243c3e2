package ack

import (
	"math/rand"
	"strings"
	"testing"

	"courier/api"
)

func TestP1006Examples(t *testing.T) {
	none := api.Ack{Marks: common, Expect: -1}
	for line, want := range map[string]api.Ack{
		"":  none,
		"|": none,
		"|LAB|a^b^c|HIS|d|2026||ADT^A01|A1|P|2.5.1|7||AL|AL":                  {Marks: common, To: [3]string{"LAB"}, ToPlace: [3]string{"a", "b", "c"}, Event: "A01", Process: "P", For: "A1", Expect: -1},
		"|^x^ISO|\\H\\a^1\\H\\2^b|HIS||||ADT^\\X413032\\^y~z|A\\N\\1|\\X44\\": {Marks: common, To: [3]string{"", "x", "ISO"}, ToPlace: [3]string{"a", "12", "b"}, Event: "A02", Process: "D", For: "A1", Expect: -1},
		"|a^b|a~b|||||ADT^A05|A 1|p":                                          none,
		"|\"\"|a&b|||||\"\"|\"\"|\"\"":                                        none,
		"|a^b^c^\\H\\|a&\\H\\|||||ADT^A01&\\H\\|A1^\\H\\|P~\\H\\":             none,
		"|LAB":                                  {Marks: common, To: [3]string{"LAB"}, Expect: -1},
		"||LAB":                                 {Marks: common, ToPlace: [3]string{"LAB"}, Expect: -1},
		"|||||||^A01":                           {Marks: common, Event: "A01", Expect: -1},
		"||||||||abcdefghijklmno.-9":            {Marks: common, For: "abcdefghijklmno.-9", Expect: -1},
		"||||||||abcdefghijklmno.-90":           none,
		"||||||||A1^|P^T":                       {Marks: common, For: "A1", Expect: -1},
		"|||||||||P":                            {Marks: common, Process: "P", Expect: -1},
		"||||||||||2.5.1|||NE|NE":               none,
		"|LAB~|x^^^&~|||||^A01&^~|A1~|P^^&~":    {Marks: common, To: [3]string{"LAB"}, ToPlace: [3]string{"x"}, Event: "A01", Process: "P", For: "A1", Expect: -1},
		"|L\\F\\B|x^\\F\\^y|||||^A\\F\\|\\F\\|": {Marks: common, ToPlace: [3]string{"x", "|", "y"}, Expect: -1},
	} {
		head := message(t, line).Segs[0]
		for _, name := range []string{"MSH", "", "PID", "no name"} {
			head.Name = name
			if got := Answer(common, head); !same(got, want) {
				t.Errorf("%s %s: %+v, want %+v", name, line, got, want)
			}
		}
		if got := modelAnswer(common, head); !same(got, want) {
			t.Errorf("%s: the model: %+v, want %+v", line, got, want)
		}
	}
}

// TestP1006Refused: a text that layer 5 refuses under the marks is none, and right for nothing.
func TestP1006Refused(t *testing.T) {
	whole := func() api.Seg { return message(t, "|LAB^x^ISO|a|||||ADT^A01|A1|P").Segs[0] }
	sub := func(s api.Seg, field, comp int) *string { return &s.Fields[field-3].Reps[0].Comps[comp-1].Subs[0] }
	full := Answer(common, whole())
	if !same(full, api.Ack{Marks: common, To: [3]string{"LAB", "x", "ISO"}, ToPlace: [3]string{"a"}, Event: "A01", Process: "P", For: "A1", Expect: -1}) {
		t.Fatalf("%+v", full)
	}
	for _, wire := range []string{"a|b", "^", "\\", "\\Q\\", "a\tb", "\r", "A1\\", strings.Repeat("x", 9000), strings.Repeat("\\H\\", 2731)} {
		for _, c := range []struct {
			field, comp int
			turn        change
		}{
			{3, 1, func(a *api.Ack) { a.To = [3]string{} }},
			{3, 2, func(a *api.Ack) { a.To = [3]string{} }},
			{3, 3, func(a *api.Ack) { a.To = [3]string{} }},
			{4, 1, func(a *api.Ack) { a.ToPlace = [3]string{} }},
			{9, 1, func(a *api.Ack) {}},
			{9, 2, func(a *api.Ack) { a.Event = "" }},
			{10, 1, func(a *api.Ack) { a.For = "" }},
			{11, 1, func(a *api.Ack) { a.Process = "" }},
		} {
			s, want := whole(), full
			*sub(s, c.field, c.comp) = wire
			c.turn(&want)
			if got := Answer(common, s); !same(got, want) {
				t.Errorf("%.20q at MSH-%d.%d: %+v, want %+v", wire, c.field, c.comp, got, want)
			}
		}
	}
	for _, k := range []api.Marks{{}, {Field: '|', Comp: '^', Rep: '~', Esc: '\\', Sub: '|'}, {Field: 'A', Comp: '^', Rep: '~', Esc: '\\', Sub: '&'}} {
		if got := Answer(k, whole()); !same(got, api.Ack{Marks: k, Expect: -1}) {
			t.Errorf("marks %v: %+v", k, got)
		}
		if got := Answer(k, api.Seg{}); !same(got, api.Ack{Marks: k, Expect: -1}) {
			t.Errorf("marks %v, nothing: %+v", k, got)
		}
	}
	s := whole()
	*sub(s, 4, 1) = "\"\""
	quote := api.Marks{Field: '"', Comp: '^', Rep: '~', Esc: '\\', Sub: '&'}
	if got := Answer(quote, s); !same(got, api.Ack{Marks: quote, To: full.To, Event: "A01", Process: "P", For: "A1", Expect: -1}) {
		t.Errorf("the null under marks that have its byte: %+v", got)
	}
}

// TestP1006Wide: a head may have more of everything than a message may; empty ends don't count.
func TestP1006Wide(t *testing.T) {
	s := message(t, "|LAB|a|||||ADT^A01|A1|P").Segs[0]
	want := Answer(common, s)
	for i := range s.Fields {
		f := &s.Fields[i]
		for j := range f.Reps {
			for k := range f.Reps[j].Comps {
				f.Reps[j].Comps[k].Subs = append(f.Reps[j].Comps[k].Subs, make([]string, 100)...)
			}
			f.Reps[j].Comps = append(f.Reps[j].Comps, make([]api.Comp, 100)...)
		}
		f.Reps = append(f.Reps, make([]api.Rep, 100)...)
	}
	s.Fields = append(s.Fields, make([]api.Field, 200)...)
	s.Fields = append(s.Fields, message(t, "|x").Segs[0].Fields...)
	if got := Answer(common, s); !same(got, want) || want.For != "A1" {
		t.Errorf("%+v, want %+v", got, want)
	}
}

func TestP1006Random(t *testing.T) {
	r := rand.New(rand.NewSource(1006))
	told := 0
	for range 6000 {
		m := randomMessage(t, r)
		want := modelAnswer(m.Marks, m.Segs[0])
		if got := Answer(m.Marks, m.Segs[0]); !same(got, want) {
			t.Errorf("%v: %+v, want %+v", m.Segs[0], got, want)
		}
		if got := Answer(m.Marks, fattened(m, r).Segs[0]); !same(got, want) {
			t.Errorf("%v, with empty ends: %+v, want %+v", m.Segs[0], got, want)
		}
		if want.For != "" || want.Event != "" || want.Process != "" || want.To != [3]string{} {
			told++
		}
	}
	if told < 1500 {
		t.Errorf("only %d told something", told)
	}
}
