package ledger

import (
	"bytes"
	"math/rand/v2"
	"reflect"
	"slices"
	"strings"
	"testing"

	"courier/api"
	"courier/disk"
)

// P1612

// spoil writes over a byte string and the room behind it.
func spoil(b []byte) {
	b = b[:cap(b)]
	for i := range b {
		b[i] = '!'
	}
}

// textsOf are all byte strings of tables.
func textsOf(x api.Tables) [][]byte {
	var all [][]byte
	for _, o := range x.Out {
		all = append(all, o.Text)
	}
	for _, e := range x.In {
		all = append(all, e.Text, e.Commit, e.Answer)
	}
	return all
}

// spoilTables writes over lists and byte strings, and the room behind them.
func spoilTables(x api.Tables) {
	for _, b := range textsOf(x) {
		spoil(b)
	}
	for i := range x.Out[:cap(x.Out)] {
		x.Out[:cap(x.Out)][i] = api.Out{Control: "spoilt", Number: 99, Noted: true}
	}
	for i := range x.In[:cap(x.In)] {
		x.In[:cap(x.In)][i] = api.InEntry{Control: "spoilt", Number: 99, Code: "AR"}
	}
}

func spoilRecord(r api.Record) {
	spoil(r.Text)
	spoil(r.Commit)
	spoil(r.Answer)
}

// roomy gives a byte string with room behind it.
func roomy(b []byte) []byte {
	if b == nil {
		return nil
	}
	return append(make([]byte, 0, len(b)+40), b...)
}

// allRoomy gives tables whose lists and byte strings have room behind them.
func allRoomy(x api.Tables) api.Tables {
	x.Out, x.In = append(make([]api.Out, 0, 40), x.Out...), append(make([]api.InEntry, 0, 40), x.In...)
	for i := range x.Out {
		x.Out[i].Text = roomy(x.Out[i].Text)
	}
	for i := range x.In {
		x.In[i].Text, x.In[i].Commit, x.In[i].Answer = roomy(x.In[i].Text), roomy(x.In[i].Commit), roomy(x.In[i].Answer)
	}
	return x
}

// next gives a record of each kind that may follow full tables, as far as the terms let it.
func next(terms api.Terms) []api.Record {
	number := 0
	if terms.Takes {
		number = 5
	}
	list := []api.Record{
		{Kind: 1, Control: "new", Text: roomy([]byte("text")), Cond: always},
		{Kind: 3, Control: "o1"},
		{Kind: 4, Control: "o1", State: api.WantAnswered, Code: "AE"},
		{Kind: 5, Control: "new", Text: roomy([]byte("text")), Number: number, Tick: 9, Commit: roomy([]byte("commit"))},
		{Kind: 6, Control: "i2", Code: "AR", Answer: roomy([]byte("answer"))},
	}
	if terms.Sends {
		list = append(list, api.Record{Kind: 2, Control: "o1", Number: 9})
	}
	if terms.Takes {
		list = append(list, api.Record{Kind: 8, Control: "new"})
	}
	return list
}

// What is handed in to Apply, Check, Pack stays, and what Apply answers is its own.
func TestP1612ApplysMemory(t *testing.T) {
	for _, terms := range allTerms(2) {
		for _, r := range next(terms) {
			x := allRoomy(full(terms))
			behind := slices.Clone(x.Out[:cap(x.Out)])
			behindIn := slices.Clone(x.In[:cap(x.In)])
			kept, was := deep(x), r
			was.Text, was.Commit, was.Answer = slices.Clone(r.Text), slices.Clone(r.Commit), slices.Clone(r.Answer)
			want, may := makes(terms, x, r)
			y, err := Apply(terms, x, r)
			if !may || err != nil || !isSame(y, want) {
				t.Fatalf("kind %d: %v", r.Kind, err)
			}
			if !isSame(x, kept) || !isSameRecord(r, was) || !reflect.DeepEqual(behind, x.Out[:cap(x.Out)]) || !reflect.DeepEqual(behindIn, x.In[:cap(x.In)]) {
				t.Fatalf("kind %d: what was handed in has changed", r.Kind)
			}
			spoilTables(y)
			if !isSame(x, kept) || !isSameRecord(r, was) {
				t.Fatalf("kind %d: the answer is memory of what was handed in", r.Kind)
			}
			y, err = Apply(terms, x, r)
			done(t, err)
			spoilTables(x)
			spoilRecord(r)
			if !isSame(y, want) {
				t.Fatalf("kind %d: what was handed in is kept", r.Kind)
			}
		}
	}
}

// No two byte strings of one answer share memory, though those that were handed in did.
func TestP1612AnswersShareNothing(t *testing.T) {
	for _, terms := range allTerms(2) {
		one := bytes.Repeat([]byte("s"), 64)
		x := full(terms)
		for i := range x.Out {
			x.Out[i].Text = one[:20]
		}
		for i := range x.In {
			x.In[i].Text, x.In[i].Commit = one[:20], one[:20]
			if x.In[i].Code != "" {
				x.In[i].Answer = one[:20]
			}
		}
		b, err := Pack(terms, x)
		done(t, err)
		d := diskOf(t, 1, b)
		l, err := Open(d, terms)
		done(t, err)
		for what, make := range map[string]func() api.Tables{
			"Unpack": func() api.Tables {
				y, err := Unpack(terms, b)
				done(t, err)
				return y
			},
			"Tables": l.Tables,
			"Apply": func() api.Tables {
				y, err := Apply(terms, x, api.Record{Kind: 1, Control: "new", Text: one[:20]})
				done(t, err)
				return y
			},
		} {
			for i := range textsOf(make()) {
				y, z := make(), make()
				spoil(textsOf(y)[i])
				for j, text := range textsOf(y) {
					if j != i && strings.Contains(string(text), "!") {
						t.Fatalf("%s: the bytes %d have changed with %d", what, j, i)
					}
				}
				if !isSame(z, make()) {
					t.Fatalf("%s: two answers share memory", what)
				}
			}
		}
	}
}

func TestP1612BytesMemory(t *testing.T) {
	for _, r := range good() {
		b, err := Encode(r)
		done(t, err)
		c, err := Encode(r)
		done(t, err)
		spoil(b)
		if !bytes.Equal(c, bytesOf(r)) {
			t.Fatal("two answers of Encode share memory")
		}
		in := roomy(c)
		got, err := Decode(in)
		done(t, err)
		other, err := Decode(in)
		done(t, err)
		if !bytes.Equal(in[:cap(in)], roomy(c)[:cap(in)]) {
			t.Fatal("Decode has changed its bytes")
		}
		spoil(in)
		if !isSameRecord(got, r) {
			t.Fatal("Decode's record is memory of its bytes")
		}
		spoil(got.Text)
		if len(got.Commit) > 0 && got.Commit[0] == '!' {
			t.Fatal("two byte strings of a record share memory")
		}
		spoilRecord(got)
		if !isSameRecord(other, r) {
			t.Fatal("two answers of Decode share memory")
		}
	}
	for _, terms := range allTerms(2) {
		x := allRoomy(full(terms))
		b, err := Pack(terms, x)
		done(t, err)
		if !isSame(x, full(terms)) {
			t.Fatal("Pack has changed the tables")
		}
		spoilTables(x)
		in := roomy(b)
		y, err := Unpack(terms, in)
		if err != nil || !bytes.Equal(in[:cap(in)], roomy(b)[:cap(in)]) {
			t.Fatalf("Unpack has changed its bytes: %v", err)
		}
		spoil(in)
		if !isSame(y, full(terms)) {
			t.Fatal("Unpack's tables are memory of its bytes")
		}
		spoilTables(y)
		if c, err := Pack(terms, full(terms)); err != nil || !bytes.Equal(c, b) {
			t.Fatal("Pack's bytes have changed")
		}
	}
}

// A Ledger's tables are its own, whatever their holders write over.
func TestP1612LedgersMemory(t *testing.T) {
	for _, terms := range allTerms(2) {
		for _, r := range next(terms) {
			d := diskOf(t, 1, snapshotOf(full(terms)))
			l, err := Open(d, terms)
			done(t, err)
			want, _ := makes(terms, full(terms), r)
			spoilTables(l.Tables())
			c := r
			c.Text, c.Commit, c.Answer = roomy(r.Text), roomy(r.Commit), roomy(r.Answer)
			done(t, l.Write(c))
			spoilRecord(c)
			for range 2 {
				y := l.Tables()
				if !isSame(y, want) {
					t.Fatalf("kind %d: %+v, want %+v", r.Kind, y, want)
				}
				spoilTables(y)
			}
			k, err := Open(d, terms)
			if err != nil || !isSame(k.Tables(), want) {
				t.Fatalf("kind %d: the log has changed: %v", r.Kind, err)
			}
			done(t, l.Compact())
			k, err = Open(d, terms)
			if err != nil || !isSame(k.Tables(), want) {
				t.Fatalf("kind %d: the snapshot has changed: %v", r.Kind, err)
			}
		}
	}
}

// nil and empty lists and byte strings mean the same: what is made of them is the same.
func TestP1612NilAndEmptyAreOne(t *testing.T) {
	for _, terms := range allTerms(1) {
		x := begun(terms)
		empty := x
		empty.Out, empty.In = []api.Out{}, []api.InEntry{}
		for _, r := range story(terms) {
			e := r
			for _, b := range []*[]byte{&e.Text, &e.Commit, &e.Answer} {
				if *b == nil {
					*b = []byte{}
				}
			}
			y, err := Apply(terms, x, r)
			z, no := Apply(terms, empty, e)
			done(t, err, no)
			if !isSame(y, z) {
				t.Fatalf("kind %d: %+v, %+v", r.Kind, y, z)
			}
			x, empty = y, z
			for i := range empty.In {
				for _, b := range []*[]byte{&empty.In[i].Commit, &empty.In[i].Answer} {
					if *b == nil {
						*b = []byte{}
					}
				}
			}
		}
	}
	for _, b := range [][]byte{nil, {}} {
		_, err := Decode(b)
		refused(t, "Decode", err, api.ErrForm, 0)
		_, err = Unpack(api.Terms{Keep: 1}, b)
		refused(t, "Unpack", err, api.ErrForm, 0)
	}
}

// Two Ledgers in turns, each as it is alone.
func TestP1612TwoLedgers(t *testing.T) {
	type step func(l *Ledger) error
	script := func(seed uint64, terms api.Terms) []step {
		d := dice{rand.New(rand.NewPCG(12, seed))}
		x := begun(terms)
		var list []step
		for range 300 {
			r := d.record(terms, x)
			if y, may := makes(terms, x, r); may && flawOf(r) == 0 {
				x = y
			}
			list = append(list, func(l *Ledger) error { return l.Write(r) })
			switch d.IntN(10) {
			case 0:
				list = append(list, func(l *Ledger) error { _, err := l.Sync(); return err })
			case 1:
				list = append(list, (*Ledger).Compact)
			}
		}
		return list
	}
	for i, terms := range allTerms(2) {
		others := allTerms(1)[3-i]
		one, other := script(1, terms), script(2, others)
		d, l := formatted(t, terms)
		e, k := formatted(t, others)
		f, alone := formatted(t, terms)
		for n := range max(len(one), len(other)) {
			if n < len(one) {
				if got, want := one[n](l), one[n](alone); (got == nil) != (want == nil) {
					t.Fatalf("step %d: %v, alone %v", n, got, want)
				}
			}
			if n < len(other) {
				other[n](k)
			}
			if !isSame(l.Tables(), alone.Tables()) || l.Stat() != alone.Stat() || seen(d) != seen(f) {
				t.Fatalf("step %d: %+v, alone %+v", n, l.Tables(), alone.Tables())
			}
		}
		if x := k.Tables(); isSame(x, l.Tables()) || seen(e) == seen(d) {
			t.Error("both are the same")
		}
	}
}

// Of two Ledgers on one disk nothing is said of the elder, but that it does not panic.
func TestP1612TwoLedgersOnOneDisk(t *testing.T) {
	for seed := range 8 {
		d := dice{rand.New(rand.NewPCG(13, uint64(seed)))}
		terms := allTerms(2)[seed%4]
		on, l := formatted(t, terms)
		all := []*Ledger{l}
		for range 400 {
			l := all[d.IntN(len(all))]
			switch d.IntN(8) {
			case 0:
				l.Sync()
			case 1:
				l.Compact()
			case 2:
				if k, err := Open(on, terms); err == nil {
					all = append(all, k)
				}
			case 3:
				on.Fuse(d.IntN(9))
			case 4:
				on.Crash([2]api.Tear{{Keep: d.IntN(99)}, {Keep: d.IntN(99)}})
			case 5:
				if k, err := Format(on, terms); err == nil && d.IntN(5) == 0 {
					all = []*Ledger{k}
				}
			default:
				l.Write(d.record(terms, l.Tables()))
			}
			l.Stat()
		}
	}
}

// A Ledger that is copied as a value goes on as one with it.
func TestP1612ACopiedLedger(t *testing.T) {
	_, l := formatted(t, api.Terms{Keep: 1})
	c := *l
	done(t, l.Write(api.Record{Kind: 1, Control: "a", Text: []byte("m")}), c.Write(api.Record{Kind: 1, Control: "b", Text: []byte("m")}))
	if !isSame(l.Tables(), c.Tables()) || len(c.Tables().Out) != 2 || l.Stat() != c.Stat() {
		t.Errorf("%+v, %+v", l.Tables(), c.Tables())
	}
	d := disk.New()
	if k, err := Open(d, api.Terms{Keep: 1}); k != nil || err == nil {
		t.Errorf("%v, %v", k, err)
	}
}
