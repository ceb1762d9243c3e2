package ledger

import (
	"math"
	"math/rand/v2"
	"slices"
	"strconv"
	"strings"
	"testing"

	"courier/api"
)

// P1602, P1610

// applies holds Apply against the model, and tells the tables that were made; else those that were.
func applies(t *testing.T, terms api.Terms, x api.Tables, r api.Record) (api.Tables, bool) {
	t.Helper()
	what := "kind " + strconv.Itoa(r.Kind) + " of " + strconv.Quote(r.Control)
	y, err := Apply(terms, x, r)
	if at := flawOf(r); at != 0 {
		refused(t, what, err, api.ErrBook, at)
		return x, false
	}
	want, may := makes(terms, x, r)
	if !may {
		refused(t, what, err, api.ErrBook, 0)
		if !isNone(y) {
			t.Fatalf("%s: tables beside an error: %+v", what, y)
		}
		return x, false
	}
	if err != nil || !isSame(y, want) {
		t.Fatalf("%s: %+v, %v; want %+v", what, y, err, want)
	}
	// Tables that Apply makes may be.
	done(t, Check(terms, y))
	return y, true
}

// follows: the record may follow, and of the tables just this changes.
func follows(t *testing.T, terms api.Terms, x api.Tables, r api.Record, change func(y *api.Tables)) api.Tables {
	t.Helper()
	y, may := applies(t, terms, x, r)
	want := deep(x)
	change(&want)
	if !may || !isSame(y, want) {
		t.Fatalf("kind %d: %+v, want %+v", r.Kind, y, want)
	}
	return y
}

// mayNot: the record is written well and may not follow.
func mayNot(t *testing.T, what string, terms api.Terms, x api.Tables, r api.Record) {
	t.Helper()
	_, err := Apply(terms, x, r)
	refused(t, what, err, api.ErrBook, 0)
	if _, may := applies(t, terms, x, r); may {
		t.Fatal(what)
	}
}

func TestP1602Out(t *testing.T) {
	for _, terms := range allTerms(2) {
		x := full(terms)
		for _, c := range allConds() {
			r := api.Record{Kind: api.RecOut, Control: "new", Text: []byte("m"), Cond: c}
			follows(t, terms, x, r, func(y *api.Tables) {
				y.Out = append(y.Out, api.Out{Control: "new", Text: []byte("m"), Cond: c})
			})
			for i := range x.Out {
				r.Control = x.Out[i].Control
				mayNot(t, "it is there", terms, x, r)
			}
			// What was accepted has ids of its own.
			r.Control = x.In[0].Control
			follows(t, terms, x, r, func(y *api.Tables) {
				y.Out = append(y.Out, api.Out{Control: "i1", Text: []byte("m"), Cond: c})
			})
		}
		for len(x.Out) < 32 {
			r := api.Record{Kind: api.RecOut, Control: "n" + strconv.Itoa(len(x.Out)), Text: make([]byte, longest)}
			x, _ = applies(t, terms, x, r)
		}
		mayNot(t, "32 are there", terms, x, api.Record{Kind: api.RecOut, Control: "new", Text: []byte("m")})
	}
}

func TestP1602Number(t *testing.T) {
	for _, terms := range allTerms(2) {
		x := full(terms)
		for _, n := range []int{1, 2, 6, 7, 8, top - 1, top} {
			r := api.Record{Kind: api.RecNumber, Control: "o1", Number: n}
			if !terms.Sends {
				mayNot(t, "without Sends", terms, x, r)
				continue
			}
			next := n + 1
			if n == top {
				next = 0
			}
			number := func(y *api.Tables) { y.Out[0].Number, y.Next = n, next }
			follows(t, terms, x, r, number)
			bare := deep(x)
			bare.Out[0].Number, bare.Next = 0, 0
			follows(t, terms, bare, r, number)
			for _, id := range []string{"o2", "o3", "i1", "nobody"} {
				r.Control = id
				mayNot(t, "not the first", terms, x, r)
			}
			r.Control = "o1"
			bare.Out = nil
			mayNot(t, "none is there", terms, bare, r)
		}
	}
}

func TestP1602Commit(t *testing.T) {
	for _, terms := range allTerms(2) {
		for _, c := range allConds() {
			x := full(terms)
			for i := range x.Out {
				x.Out[i].Cond, x.Out[i].Noted = c, false
			}
			for i := range x.Out {
				r := api.Record{Kind: api.RecCommit, Control: x.Out[i].Control}
				if !comes(c, "CA") {
					mayNot(t, "no CA may come", terms, x, r)
					continue
				}
				y := follows(t, terms, x, r, func(y *api.Tables) { y.Out[i].Noted = true })
				mayNot(t, "noted before", terms, y, r)
			}
			for _, id := range []string{"i1", "i2", "nobody"} {
				mayNot(t, "not there", terms, x, api.Record{Kind: api.RecCommit, Control: id})
			}
		}
	}
}

func TestP1602Final(t *testing.T) {
	for _, terms := range allTerms(2) {
		for _, c := range allConds() {
			x := full(terms)
			for i := range x.Out {
				x.Out[i].Cond, x.Out[i].Noted = c, false
			}
			for i := range x.Out {
				ends := []api.Record{{Kind: 4, State: api.WantClosed}, {Kind: 4, State: api.WantFailed}}
				for _, code := range codes() {
					ends = append(ends, api.Record{Kind: 4, State: api.WantAnswered, Code: code})
				}
				for _, r := range ends {
					r.Control = x.Out[i].Control
					switch {
					case terms.Sends && i > 0:
						mayNot(t, "not the first", terms, x, r)
					case r.Code != "" && !comes(c, r.Code):
						mayNot(t, "the code can't come", terms, x, r)
					default:
						y := follows(t, terms, x, r, func(y *api.Tables) { y.Out = slices.Delete(y.Out, i, i+1) })
						mayNot(t, "gone", terms, y, r)
					}
				}
			}
			for _, id := range []string{"i1", "nobody"} {
				mayNot(t, "not there", terms, x, api.Record{Kind: 4, Control: id, State: api.WantFailed})
			}
		}
	}
}

func TestP1602In(t *testing.T) {
	for _, terms := range allTerms(2) {
		x, right := full(terms), 0
		if terms.Takes {
			right = 5
		}
		r := api.Record{Kind: api.RecIn, Control: "new", Text: []byte("m"), Number: right, Tick: 9, Commit: []byte("c")}
		take := func(y *api.Tables) {
			y.In = append(y.In, api.InEntry{Control: "new", Text: []byte("m"), Number: right, Tick: 9, Commit: []byte("c")})
			if terms.Takes {
				y.Expects, y.Last = 6, 5
			}
		}
		y := follows(t, terms, x, r, take)
		again := r
		if terms.Takes {
			again.Number = 6
		}
		mayNot(t, "it is there", terms, y, again)
		for _, n := range []int{0, 1, 4, 5, 6, top} {
			if n != right {
				c := r
				c.Number = n
				mayNot(t, "not the right number", terms, x, c)
			}
		}
		for i := range x.In {
			c := r
			c.Control = x.In[i].Control
			mayNot(t, "it is kept", terms, x, c)
		}
		for _, tick := range []int{0, 3, 8} {
			c := r
			c.Tick = tick
			mayNot(t, "a tick too low", terms, x, c)
		}
		for len(y.In) < 31+3 { // three decided ones are there
			c := r
			c.Control, c.Tick = "n"+strconv.Itoa(len(y.In)), 10
			if terms.Takes {
				c.Number = y.Expects
			}
			y, _ = applies(t, terms, y, c)
		}
		c := r
		c.Number, c.Tick, c.Control = y.Expects, latest, "last"
		y, _ = applies(t, terms, y, c)
		c.Number, c.Control = y.Expects, "beyond"
		mayNot(t, "32 are open", terms, y, c)
	}
}

// Numbers of what is accepted: any behind a Resync, none behind the greatest.
func TestP1602InNumbers(t *testing.T) {
	for _, terms := range []api.Terms{{Takes: true, Keep: 1}, {Sends: true, Takes: true, Keep: 1}} {
		for _, n := range []int{1, 2, 77, top - 1, top} {
			r := api.Record{Kind: api.RecIn, Control: "a", Text: []byte("m"), Number: n}
			y := follows(t, terms, api.Tables{}, r, func(y *api.Tables) {
				y.Expects, y.Last = n+1, n
				y.In = []api.InEntry{{Control: "a", Text: []byte("m"), Number: n}}
			})
			for _, m := range []int{0, 1, n - 1, n, n + 1, n + 2, top} {
				r := api.Record{Kind: api.RecIn, Control: "b", Text: []byte("m"), Number: m}
				if _, may := applies(t, terms, y, r); may != (m == n+1 && n < top) {
					t.Errorf("%d behind %d: %v", m, n, may)
				}
			}
		}
		mayNot(t, "a Probe's number", terms, api.Tables{}, api.Record{Kind: api.RecIn, Control: "a", Text: []byte("m")})
		for _, e := range []int{1, 9, top} {
			x := api.Tables{Expects: e}
			for _, n := range []int{0, 1, 8, 9, 10, top} {
				r := api.Record{Kind: api.RecIn, Control: "a", Text: []byte("m"), Number: n}
				if _, may := applies(t, terms, x, r); may != (n == e) {
					t.Errorf("%d, where %d is expected: %v", n, e, may)
				}
			}
		}
	}
}

func TestP1602Verdict(t *testing.T) {
	for _, terms := range allTerms(2) {
		x := full(terms)
		for _, code := range verdicts() {
			for _, answer := range [][]byte{nil, {}, []byte("y"), make([]byte, mostAns)} {
				r := api.Record{Kind: api.RecVerdict, Control: "i2", Code: code, Answer: answer}
				y := follows(t, terms, x, r, func(y *api.Tables) {
					y.In[1].Code, y.In[1].Answer = code, answer
					y.In = y.In[1:] // behind the first three decided ones stand
				})
				mayNot(t, "decided", terms, y, r)
			}
			for _, id := range []string{"i1", "i3", "i4"} {
				mayNot(t, "decided", terms, x, api.Record{Kind: api.RecVerdict, Control: id, Code: code})
			}
			for _, id := range []string{"o1", "nobody"} {
				mayNot(t, "not kept", terms, x, api.Record{Kind: api.RecVerdict, Control: id, Code: code})
			}
		}
		// It may be the very one that goes.
		x.In = []api.InEntry{entry("a", 1), decided("b", 1), decided("c", 1), decided("d", 1)}
		follows(t, terms, x, api.Record{Kind: api.RecVerdict, Control: "a", Code: "AA"}, func(y *api.Tables) { y.In = y.In[1:] })
		// And with room none goes.
		x.In = x.In[:3]
		follows(t, terms, x, api.Record{Kind: api.RecVerdict, Control: "a", Code: "AA"}, func(y *api.Tables) { y.In[0].Code = "AA" })
	}
}

func TestP1602Next(t *testing.T) {
	for _, terms := range allTerms(2) {
		for _, n := range []int{0, 1, 7, 8, top} {
			r := api.Record{Kind: api.RecNext, Number: n}
			x := full(terms)
			if !terms.Sends {
				mayNot(t, "without Sends", terms, x, r)
				mayNot(t, "without Sends", terms, api.Tables{}, r)
				continue
			}
			mayNot(t, "the head has a number", terms, x, r)
			x.Out[0].Number = 0
			next := func(y *api.Tables) { y.Next = n }
			follows(t, terms, x, r, next)
			x.Out = nil
			follows(t, terms, x, r, next)
			follows(t, terms, api.Tables{}, r, next)
		}
	}
}

func TestP1602Open(t *testing.T) {
	for _, terms := range allTerms(2) {
		x := full(terms)
		for _, id := range []string{"r1", "r2", "o1", "i1", strings.Repeat("r", 18)} {
			r := api.Record{Kind: api.RecOpen, Control: id}
			switch {
			case !terms.Takes:
				mayNot(t, "without Takes", terms, x, r)
			case id == x.Reset:
				mayNot(t, "the last Resync's", terms, x, r)
			default:
				open := func(y *api.Tables) { y.Expects, y.Last, y.Reset = 0, 0, id }
				y := follows(t, terms, x, r, open)
				mayNot(t, "the last Resync's", terms, y, r)
				follows(t, terms, api.Tables{}, r, open)
				// The one ahead of it comes as a new one.
				follows(t, terms, y, api.Record{Kind: api.RecOpen, Control: "r1"}, func(y *api.Tables) { y.Reset = "r1" })
			}
		}
	}
}

// dice makes records at random that mean something to the tables.
type dice struct{ *rand.Rand }

func pick[T any](d dice, list ...T) T { return list[d.IntN(len(list))] }

func (d dice) id(letter string) string { return letter + strconv.Itoa(d.IntN(45)) }

func (d dice) text() []byte { return []byte(strings.Repeat("t", 1+d.IntN(4))) }

// known is the control id of a message that is there, mostly.
func (d dice) known(x api.Tables) string {
	if len(x.Out) == 0 || d.IntN(8) == 0 {
		return d.id("o")
	}
	if d.IntN(2) == 0 {
		return x.Out[0].Control
	}
	return x.Out[d.IntN(len(x.Out))].Control
}

func (d dice) record(terms api.Terms, x api.Tables) api.Record {
	cond := func() api.Conditions { return pick(d, allConds()...) }
	number := func() int { return pick(d, x.Next, x.Next, x.Expects, x.Last, 1, 2, d.IntN(9), top-1, top) }
	r := api.Record{Kind: 1 + d.IntN(8)}
	switch r.Kind {
	case 1:
		r.Control, r.Text, r.Cond = d.id("o"), d.text(), cond()
	case 2:
		r.Control, r.Number = d.known(x), number()
	case 3:
		r.Control = d.known(x)
	case 4:
		r.Control, r.State = d.known(x), 4+d.IntN(3)
		if r.State == 4 {
			r.Code = pick(d, codes()...)
		}
	case 5:
		r.Control, r.Text, r.Number = d.id("i"), d.text(), x.Expects
		if n := len(x.In); n > 0 {
			r.Tick = max(0, x.In[n-1].Tick+d.IntN(6)-1)
		}
		if x.Expects == 0 && terms.Takes || d.IntN(6) == 0 {
			r.Number = number()
		}
		r.Commit = d.text()[1:]
	case 6:
		r.Control, r.Code, r.Answer = d.id("i"), pick(d, verdicts()...), d.text()[1:]
		if n := len(x.In); n > 0 && d.IntN(4) > 0 {
			r.Control = x.In[d.IntN(n)].Control
		}
	case 7:
		r.Number = number()
	case 8:
		r.Control = "r" + strconv.Itoa(d.IntN(3))
	}
	return r
}

// spoilt is a record with a field that is wrong, or is not.
func (d dice) spoilt(r api.Record) api.Record {
	switch d.IntN(8) {
	case 0:
		r.Kind = pick(d, someNumbers()...)
	case 1:
		r.Control = pick(d, "", "a b", strings.Repeat("x", 19), "A")
	case 2:
		r.Text = make([]byte, pick(d, 0, 1, longest, longest+1))
	case 3:
		r.Cond = pick(d, append(wrongConds(), always)...)
	case 4:
		r.Number = pick(d, someNumbers()...)
	case 5:
		r.Tick = pick(d, someNumbers()...)
	case 6:
		r.State, r.Code = d.IntN(8), pick(d, someCodes()...)
	case 7:
		r.Commit, r.Answer = make([]byte, pick(d, 0, mostAns, mostAns+1)), make([]byte, pick(d, 0, 1, mostAns+1))
	}
	return r
}

func TestP1602AnyRecords(t *testing.T) {
	for seed := range 3 {
		d := dice{rand.New(rand.NewPCG(16, uint64(seed)))}
		for _, keep := range []int{1, 2, 5, 64} {
			for _, terms := range allTerms(keep) {
				x, err := Begin(terms)
				done(t, err)
				followed := map[int]int{}
				for range 1500 {
					r := d.record(terms, x)
					if d.IntN(12) == 0 {
						r = d.spoilt(r)
					}
					y, may := applies(t, terms, x, r)
					if may {
						followed[r.Kind]++
					}
					if x = y; r.Kind == 5 && r.Tick > math.MaxInt32 {
						x, err = Begin(terms) // nothing would be accepted any more
						done(t, err)
					}
				}
				for kind := range 8 {
					needs := map[int]bool{2: terms.Sends, 7: terms.Sends, 8: terms.Takes}
					if n, asked := needs[kind+1]; (!asked || n) && followed[kind+1] == 0 {
						t.Errorf("%+v: no record of kind %d has followed", terms, kind+1)
					}
				}
			}
		}
	}
}

// Tables at random, near those that may be: Check, and what Apply asks first.
func TestP1601AnyTables(t *testing.T) {
	d := dice{rand.New(rand.NewPCG(16, 1))}
	right := 0
	for range 40000 {
		terms := allTerms(1 + d.IntN(3))[d.IntN(4)]
		x := full(allTerms(2)[d.IntN(4)])
		if d.IntN(2) == 0 {
			x.Expects, x.Last = pick(d, someNumbers()...), pick(d, someNumbers()...)
		}
		if d.IntN(2) == 0 {
			x.Next = pick(d, someNumbers()...)
		}
		if d.IntN(4) == 0 {
			x.Reset = pick(d, "", "r", "a b")
		}
		for range d.IntN(2) {
			pick(d, twists(terms)...).do(&x)
		}
		at := faultOf(terms, x)
		if at == 0 {
			right++
			done(t, Check(terms, x))
		} else {
			refused(t, "Check", Check(terms, x), api.ErrTables, at)
			_, err := Apply(terms, x, api.Record{Kind: 7})
			refused(t, "Apply", err, api.ErrTables, at)
		}
	}
	if right < 1000 {
		t.Errorf("only %d may be", right)
	}
}
