package ledger

import (
	"math"
	"slices"
	"strconv"
	"strings"
	"testing"

	"courier/api"
	"courier/disk"
)

// P1601

// formatted gives a disk with a ledger's log, and the ledger.
func formatted(t *testing.T, terms api.Terms) (*disk.Disk, *Ledger) {
	t.Helper()
	d := disk.New()
	l, err := Format(d, terms)
	if err != nil || l == nil {
		t.Fatalf("Format: %v, %v", l, err)
	}
	return d, l
}

func TestP1601KeepBelowAndBeyond(t *testing.T) {
	for _, keep := range []int{math.MinInt, -65, -1, 0, 65, 66, 1 << 32, 1<<32 + 1, math.MaxInt} {
		for _, terms := range allTerms(keep) {
			// Whatever else is wrong, Keep is asked first.
			for _, x := range []api.Tables{{}, {Next: -1}, {Expects: 1, In: make([]api.InEntry, 1)}} {
				y, err := Begin(terms)
				refused(t, "Begin", err, api.ErrArg, 0)
				refused(t, "Check", Check(terms, x), api.ErrArg, 0)
				z, errApply := Apply(terms, x, api.Record{})
				refused(t, "Apply", errApply, api.ErrArg, 0)
				b, errPack := Pack(terms, x)
				refused(t, "Pack", errPack, api.ErrArg, 0)
				if !isNone(y) || !isNone(z) || len(b) != 0 {
					t.Fatalf("beside an error: %v, %v, %v", y, z, b)
				}
			}
			for _, b := range [][]byte{nil, []byte("HLG1"), snapshotOf(api.Tables{})} {
				x, err := Unpack(terms, b)
				refused(t, "Unpack", err, api.ErrArg, 0)
				if !isNone(x) {
					t.Fatalf("beside an error: %v", x)
				}
			}
		}
	}
}

func TestP1601KeepOfFormatAndOpen(t *testing.T) {
	dead := disk.New()
	dead.Fuse(0)
	if dead.Sync(0) == nil {
		t.Fatal("it is alive")
	}
	written, _ := formatted(t, api.Terms{Keep: 1})
	for _, keep := range []int{math.MinInt, -1, 0, 1, 64, 65, math.MaxInt} {
		wrong := keep < 1 || keep > 64
		for _, terms := range allTerms(keep) {
			for _, d := range []*disk.Disk{nil, {}, new(disk.Disk)} {
				l, err := Format(d, terms)
				refused(t, "Format", err, api.ErrZero, 0)
				k, err := Open(d, terms)
				refused(t, "Open", err, api.ErrZero, 0)
				if l != nil || k != nil {
					t.Fatal("a Ledger beside an error")
				}
			}
			for _, d := range []*disk.Disk{disk.New(), dead, written} {
				if !wrong {
					continue
				}
				before, counts := d.Image(), d.Counts()
				l, err := Format(d, terms)
				refused(t, "Format", err, api.ErrArg, 0)
				k, err := Open(d, terms)
				refused(t, "Open", err, api.ErrArg, 0)
				if l != nil || k != nil || d.Counts() != counts || string(d.Image()[1]) != string(before[1]) {
					t.Fatal("a call that is refused has done something")
				}
			}
		}
	}
}

func TestP1601KeepThatMayBe(t *testing.T) {
	for _, keep := range []int{1, 2, 63, 64} {
		for _, terms := range allTerms(keep) {
			x, err := Begin(terms)
			done(t, err, Check(terms, x))
			b, err := Pack(terms, x)
			done(t, err)
			_, err = Unpack(terms, b)
			done(t, err)
			r := api.Record{Kind: api.RecOut, Control: "a", Text: []byte("m")}
			_, err = Apply(terms, x, r)
			done(t, err)
			d, _ := formatted(t, terms)
			_, err = Open(d, terms)
			done(t, err)
		}
	}
}

func TestP1601Beginning(t *testing.T) {
	for _, keep := range []int{1, 7, 64} {
		for i, want := range []api.Tables{{}, {Next: 1}, {Expects: 1}, {Next: 1, Expects: 1}} {
			terms := allTerms(keep)[i]
			x, err := Begin(terms)
			done(t, err, Check(terms, x))
			_, l := formatted(t, terms)
			if !isSame(x, want) || !isSame(l.Tables(), want) {
				t.Errorf("%+v: %+v, %+v, want %+v", terms, x, l.Tables(), want)
			}
		}
	}
}

func out(control string) api.Out {
	return api.Out{Control: control, Text: []byte("text " + control), Cond: always}
}

func entry(control string, tick int) api.InEntry {
	return api.InEntry{Control: control, Text: []byte("text " + control), Tick: tick, Commit: []byte("commit")}
}

func decided(control string, tick int) api.InEntry {
	e := entry(control, tick)
	e.Code, e.Answer = "AE", []byte("answer")
	return e
}

// full gives tables with something everywhere that terms with Keep 2 let be.
func full(terms api.Terms) api.Tables {
	x := api.Tables{
		Out: []api.Out{out("o1"), out("o2"), out("o3")},
		In:  []api.InEntry{decided("i1", 3), entry("i2", 3), decided("i3", 4), decided("i4", 9)},
	}
	x.Out[1].Noted = true
	if terms.Sends {
		x.Next, x.Out[0].Number = 8, 7
	}
	if terms.Takes {
		x.Expects, x.Last, x.Reset = 5, 4, "r1"
		x.In[1].Number = 4
	}
	return x
}

// twist is a change by which tables are not what they may be, and the place at fault.
type twist struct {
	what string
	at   int
	do   func(x *api.Tables)
}

// twists are changes that are wrong under these terms.
func twists(terms api.Terms) []twist {
	list := []twist{
		{"Next -1", 1, func(x *api.Tables) { x.Next = -1 }},
		{"Next beyond", 1, func(x *api.Tables) { x.Next = top + 1 }},
		{"Next least", 1, func(x *api.Tables) { x.Next = math.MinInt }},
		{"Expects -1", 2, func(x *api.Tables) { x.Expects = -1 }},
		{"Expects beyond", 2, func(x *api.Tables) { x.Expects = top + 2 }},
		{"Expects most", 2, func(x *api.Tables) { x.Expects = math.MaxInt }},
		{"Last -1", 3, func(x *api.Tables) { x.Last = -1 }},
		{"Last beyond", 3, func(x *api.Tables) { x.Last = top + 1 }},
		{"Last too great", 3, func(x *api.Tables) { x.Last = x.Expects + 1 }},
		{"Reset with a space", 4, func(x *api.Tables) { x.Reset = "a b" }},
		{"Reset too long", 4, func(x *api.Tables) { x.Reset = strings.Repeat("x", 19) }},
		{"Reset of a zero", 4, func(x *api.Tables) { x.Reset = "\x00" }},
	}
	if !terms.Sends {
		list = append(list,
			twist{"Next without Sends", 1, func(x *api.Tables) { x.Next = 1 }},
			twist{"Number without Sends", 5, func(x *api.Tables) { x.Out[0].Number = 1 }})
	}
	if terms.Takes {
		list = append(list,
			twist{"Last is Expects", 3, func(x *api.Tables) { x.Last = x.Expects }},
			twist{"Last two below", 3, func(x *api.Tables) { x.Last = x.Expects - 2 }},
			twist{"Expects 0, Last not", 3, func(x *api.Tables) { x.Expects = 0 }},
			twist{"Expects 1, Last 1", 3, func(x *api.Tables) { x.Expects, x.Last = 1, 1 }},
			twist{"Expects none, Last 0", 3, func(x *api.Tables) { x.Expects, x.Last = top+1, 0 }},
			twist{"Expects none, Last below", 3, func(x *api.Tables) { x.Expects, x.Last = top+1, top-1 }})
	} else {
		list = append(list,
			twist{"Expects without Takes", 2, func(x *api.Tables) { x.Expects = 1 }},
			twist{"Both without Takes", 2, func(x *api.Tables) { x.Expects, x.Last = 2, 1 }},
			twist{"Last without Takes", 3, func(x *api.Tables) { x.Last = 1 }},
			twist{"Reset without Takes", 4, func(x *api.Tables) { x.Reset = "r1" }})
	}
	return slices.Concat(list, outTwists(), inTwists())
}

func outTwists() []twist {
	each := func(what string, do func(o *api.Out)) twist {
		return twist{"Out " + what, 5, func(x *api.Tables) { do(&x.Out[1]) }}
	}
	return []twist{
		each("without a control id", func(o *api.Out) { o.Control = "" }),
		each("with a long control id", func(o *api.Out) { o.Control = strings.Repeat("x", 19) }),
		each("with a slash", func(o *api.Out) { o.Control = "a/b" }),
		each("twice", func(o *api.Out) { o.Control = "o1" }),
		each("without a text", func(o *api.Out) { o.Text = nil }),
		each("with a long text", func(o *api.Out) { o.Text = make([]byte, longest+1) }),
		each("with wrong conditions", func(o *api.Out) { o.Cond = api.Conditions{App: 1} }),
		each("noted of none", func(o *api.Out) { o.Cond = onError }),
		each("with a number behind the head", func(o *api.Out) { o.Number = 1 }),
		{"Out head below", 5, func(x *api.Tables) { x.Out[0].Number = -1 }},
		{"Out head beyond", 5, func(x *api.Tables) { x.Out[0].Number = top + 1 }},
		{"Out of 33", 5, func(x *api.Tables) {
			for len(x.Out) < 33 {
				x.Out = append(x.Out, out("p"+strconv.Itoa(len(x.Out))))
			}
		}},
	}
}

func inTwists() []twist {
	each := func(what string, do func(e *api.InEntry)) twist {
		return twist{"In " + what, 6, func(x *api.Tables) { do(&x.In[1]) }}
	}
	return []twist{
		each("without a control id", func(e *api.InEntry) { e.Control = "" }),
		each("with a space", func(e *api.InEntry) { e.Control = "i 2" }),
		each("twice", func(e *api.InEntry) { e.Control = "i1" }),
		each("without a text", func(e *api.InEntry) { e.Text = nil }),
		each("with a long text", func(e *api.InEntry) { e.Text = make([]byte, longest+1) }),
		each("number below", func(e *api.InEntry) { e.Number = -1 }),
		each("number beyond", func(e *api.InEntry) { e.Number = top + 1 }),
		each("tick below", func(e *api.InEntry) { e.Tick = 2 }),
		each("tick above", func(e *api.InEntry) { e.Tick = 5 }),
		each("commit too long", func(e *api.InEntry) { e.Commit = make([]byte, mostAns+1) }),
		each("an answer without a verdict", func(e *api.InEntry) { e.Answer = []byte("a") }),
		each("a code that is none", func(e *api.InEntry) { e.Code = "CA" }),
		each("one decided too many", func(e *api.InEntry) { e.Code = "AA" }),
		{"In answer too long", 6, func(x *api.Tables) { x.In[0].Answer = make([]byte, mostAns+1) }},
		{"In tick beyond", 6, func(x *api.Tables) { x.In[3].Tick = latest + 1 }},
		{"In tick -1", 6, func(x *api.Tables) { x.In[0].Tick = -1 }},
		{"In of 33 open", 6, func(x *api.Tables) {
			for len(x.In) < 36 {
				x.In = append(x.In, entry("j"+strconv.Itoa(len(x.In)), 9))
			}
		}},
	}
}

// notTables: every call that takes tables refuses these, at that place.
func notTables(t *testing.T, what string, terms api.Terms, x api.Tables, at int) {
	t.Helper()
	if faultOf(terms, x) != at {
		t.Fatalf("%s: the model says %d, the test %d", what, faultOf(terms, x), at)
	}
	refused(t, what, Check(terms, x), api.ErrTables, at)
	b, err := Pack(terms, x)
	refused(t, what, err, api.ErrTables, at)
	// A record that is wrong too is not looked at.
	for _, r := range []api.Record{{}, {Kind: api.RecOut, Control: "new", Text: []byte("m")}} {
		y, err := Apply(terms, x, r)
		refused(t, what, err, api.ErrTables, at)
		if !isNone(y) || len(b) != 0 {
			t.Fatalf("%s: beside an error: %v, %v", what, y, b)
		}
	}
}

func TestP1601TablesThatMayNotBe(t *testing.T) {
	for _, terms := range allTerms(2) {
		x := full(terms)
		done(t, Check(terms, x))
		all := twists(terms)
		for i, one := range all {
			x := full(terms)
			one.do(&x)
			notTables(t, one.what, terms, x, one.at)
			// Of two at fault the one with the lower number is told.
			for _, other := range all[i+1:] {
				if other.at == one.at {
					continue
				}
				x := full(terms)
				other.do(&x)
				one.do(&x)
				if faultOf(terms, x) != min(one.at, other.at) {
					continue // the two together are other than each alone
				}
				refused(t, one.what+" and "+other.what, Check(terms, x), api.ErrTables, min(one.at, other.at))
			}
		}
	}
}

func TestP1601TablesAtTheBorders(t *testing.T) {
	for _, terms := range allTerms(2) {
		for _, do := range []func(x *api.Tables){
			func(x *api.Tables) {},
			func(x *api.Tables) { *x = api.Tables{} },
			func(x *api.Tables) { x.Out, x.In = []api.Out{}, []api.InEntry{} },
			func(x *api.Tables) { x.Next = only(terms.Sends, top) },
			func(x *api.Tables) { x.Next = 0 },
			func(x *api.Tables) { x.Expects, x.Last = only(terms.Takes, top+1), only(terms.Takes, top) },
			func(x *api.Tables) { x.Expects, x.Last = only(terms.Takes, top), only(terms.Takes, top-1) },
			func(x *api.Tables) { x.Expects, x.Last = only(terms.Takes, top), 0 },
			func(x *api.Tables) { x.Expects, x.Last, x.Reset = 0, 0, "" },
			func(x *api.Tables) {
				if terms.Takes {
					x.Reset = strings.Repeat("Z", 18)
				}
			},
			func(x *api.Tables) { x.Out[0].Number = only(terms.Sends, top) },
			func(x *api.Tables) { x.Out[0].Text, x.Out[2].Text = make([]byte, longest), make([]byte, 1) },
			func(x *api.Tables) { x.In[3].Tick, x.In[3].Number = latest, top },
			func(x *api.Tables) { x.In[0].Commit, x.In[0].Answer = make([]byte, mostAns), make([]byte, mostAns) },
			func(x *api.Tables) { x.In[0].Commit, x.In[0].Answer = nil, []byte{} },
		} {
			x := full(terms)
			do(&x)
			if faultOf(terms, x) != 0 {
				t.Fatalf("the model: %d", faultOf(terms, x))
			}
			done(t, Check(terms, x))
		}
	}
}

// Keep is asked of the tables too: one more decided entry is one too many.
func TestP1601KeepOfTables(t *testing.T) {
	for _, keep := range []int{1, 2, 5, 63, 64} {
		for _, terms := range allTerms(keep) {
			var x api.Tables
			for i := range keep + 1 {
				x.In = append(x.In, decided("d"+strconv.Itoa(i), i))
			}
			done(t, Check(terms, x))
			x.In = append(x.In, decided("one-more", keep+1))
			notTables(t, "one decided too many", terms, x, 6)
		}
	}
}
