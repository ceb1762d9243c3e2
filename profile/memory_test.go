package profile

import (
	"math/rand"
	"reflect"
	"slices"
	"strings"
	"testing"

	"courier/api"
	"courier/tree"
)

// P907: what is handed in stays as it was, what is handed out is new, and no call panics.

// spoil overwrites a list and the room behind it.
func spoil[T any](l []T, with T) {
	l = l[:cap(l)]
	for i := range l {
		l[i] = with
	}
}

func TestP907ListsAreNew(t *testing.T) {
	text := loose("PID", "3 ST R max 2 in 0001 ; 4 SI O ;") + " segment MSH = end message A C D = MSH { PID } end"
	p := parsed(t, text)
	m := messageOf(t, "PID|||X|x\rEVN")
	print, structs, segs := p.Print(), p.Structs(), p.Segs()
	found, err := p.Check(0, m)
	if err != nil || len(structs) != 2 || len(segs) != 2 || len(found) != 3 {
		t.Fatal(structs, segs, found, err)
	}
	wantStructs, wantSegs, wantFound := slices.Clone(structs), slices.Clone(segs), slices.Clone(found)
	spoil(structs, api.Struct{Code: "spoiled"})
	spoil(segs, "ZZZ")
	spoil(found, api.Finding{Code: 999})
	again, err := p.Check(0, m)
	if err != nil || !slices.Equal(again, wantFound) || !slices.Equal(p.Structs(), wantStructs) || !slices.Equal(p.Segs(), wantSegs) || p.Print() != print {
		t.Errorf("behind spoiling: %v, %v, %v, %v", again, err, p.Structs(), p.Segs())
	}
	if n, ok := p.Find("A", "C", "D"); n != 1 || !ok {
		t.Errorf("Find behind spoiling: %d, %v", n, ok)
	}
}

// TestP907Two: answers of two calls share nothing.
func TestP907Two(t *testing.T) {
	p := parsed(t, example)
	m := messageOf(t, "PID")
	a, _ := p.Check(0, m)
	b, _ := p.Check(0, m)
	s, r := p.Segs(), p.Segs()
	x, y := p.Structs(), p.Structs()
	spoil(a, api.Finding{Code: 999})
	spoil(s, "ZZZ")
	spoil(x, api.Struct{})
	if !slices.Equal(b, findings("100 PID 1", "101 PID 1 3")) || !slices.Equal(r, []string{"PID"}) || y[0] != (api.Struct{Code: "ADT", Event: "A01"}) {
		t.Errorf("%v, %v, %v", b, r, y)
	}
}

// TestP907Names: the list of names is not changed, nor the room behind it.
func TestP907Names(t *testing.T) {
	rnd := rand.New(rand.NewSource(907))
	p := parsed(t, example+" message A B = MSH [ { PID } ] [ { NK1 } ] end")
	for range 2000 {
		names := append(randomNames(rnd), "room", "PID")
		before := slices.Clone(names)
		for which := range 2 {
			p.Fits(which, names[:len(names)-2])
			if !slices.Equal(names, before) {
				t.Fatalf("Fits changed %v to %v", before, names)
			}
		}
	}
}

// roomy is a message with something behind each of its lists' ends.
func roomy(m api.Message) api.Message {
	m = tree.Normal(m)
	for s := range m.Segs {
		fields := m.Segs[s].Fields
		for f := range fields {
			reps := fields[f].Reps
			for r := range reps {
				comps := reps[r].Comps
				for c := range comps {
					comps[c].Subs = append(slices.Clone(comps[c].Subs), "room")[:len(comps[c].Subs)]
				}
				reps[r].Comps = append(slices.Clone(comps), api.Comp{Subs: []string{"room"}})[:len(comps)]
			}
			fields[f].Reps = append(slices.Clone(reps), api.Rep{Comps: []api.Comp{{Subs: []string{"room"}}}})[:len(reps)]
		}
		m.Segs[s].Fields = append(slices.Clone(fields), api.Field{Reps: []api.Rep{{}}})[:len(fields)]
	}
	m.Segs = append(slices.Clone(m.Segs), api.Seg{Name: "room"})[:len(m.Segs)]
	return m
}

// stretched is a copy of a message with the room behind its lists' ends taken in.
func stretched(m api.Message) api.Message {
	c := api.Message{Marks: m.Marks}
	for _, s := range m.Segs[:cap(m.Segs)] {
		seg := api.Seg{Name: s.Name}
		for _, f := range s.Fields[:cap(s.Fields)] {
			field := api.Field{}
			for _, r := range f.Reps[:cap(f.Reps)] {
				rep := api.Rep{}
				for _, x := range r.Comps[:cap(r.Comps)] {
					rep.Comps = append(rep.Comps, api.Comp{Subs: slices.Clone(x.Subs[:cap(x.Subs)])})
				}
				field.Reps = append(field.Reps, rep)
			}
			seg.Fields = append(seg.Fields, field)
		}
		c.Segs = append(c.Segs, seg)
	}
	return c
}

// TestP907Messages: a message is not changed, nor the room behind its lists, and not kept.
func TestP907Messages(t *testing.T) {
	rnd := rand.New(rand.NewSource(9071))
	for range 500 {
		text := dense(rnd)
		if _, no := modelParse(text); no != nil {
			continue
		}
		p := parsed(t, text)
		print := p.Print()
		for range 4 {
			m := roomy(messageOf(t, randomMessage(rnd)))
			before := stretched(m)
			first, err := p.Check(0, m)
			if err != nil || !reflect.DeepEqual(stretched(m), before) {
				t.Fatalf("Check changed %v to %v (%v)", before, stretched(m), err)
			}
			kept := slices.Clone(first)
			spoil(m.Segs, api.Seg{Name: "spoiled"})
			if !slices.Equal(first, kept) || p.Print() != print {
				t.Fatalf("the findings share memory with the message: %v, %v", first, kept)
			}
		}
	}
}

// TestP907NoPanic: whatever is given, each call answers.
func TestP907NoPanic(t *testing.T) {
	rnd := rand.New(rand.NewSource(9072))
	bytes := []byte("table segment message end = ; [ ] { } < > | # \n\r\t 0001 MSH PID ZAB 3 ST R O X max len in \x00\x7f\xff")
	profiles := []*Profile{nil, {}, parsed(t, ""), parsed(t, example), parsed(t, "message A B = MSH [ ] < | > end")}
	for range 20000 {
		text := make([]byte, rnd.Intn(60))
		for i := range text {
			text[i] = pick(rnd, bytes)
		}
		holds(t, string(text))
		names := strings.Split(string(text), " ")
		m := api.Message{Marks: common}
		for _, name := range names {
			m.Segs = append(m.Segs, api.Seg{Name: name, Fields: make([]api.Field, rnd.Intn(70))})
		}
		for _, p := range profiles {
			which := rnd.Intn(5) - 2
			p.Fits(which, names)
			p.Check(which, m)
			p.Find(names[0], string(text), names[len(names)-1])
		}
	}
	for _, p := range profiles {
		p.Check(0, api.Message{})
		p.Fits(0, nil)
		p.Fits(0, []string{"", "Z", "M"})
	}
}

// TestP907Apart: two profiles know nothing of each other.
func TestP907Apart(t *testing.T) {
	p := parsed(t, example)
	print := p.Print()
	q := parsed(t, "table 0001 = Q ; segment PID = 1 ST R ; end message ADT A01 = MSH end")
	if p.Print() != print || q.Print() == print {
		t.Errorf("%q, %q", p.Print(), q.Print())
	}
	finds(t, example, "EVN\rPID|||1|||||F\rNK1")
	if l, err := q.Check(0, messageOf(t, "PID|1")); err != nil || !slices.Equal(l, findings("100 PID 1")) {
		t.Errorf("Check: %v, %v", l, err)
	}
}
