package ledger

import (
	"bytes"
	"encoding/hex"
	"slices"
	"strconv"
	"strings"
	"testing"

	"courier/api"
)

// P1604

// tablesOf reads a snapshot, and says whether it is one of tables that may be under these terms.
func tablesOf(terms api.Terms, b []byte) (api.Tables, bool) {
	s := &scan{b: b, fault: -1}
	any := func(string) bool { return true }
	most := uint64(1<<63 - 1)
	number := func() int { return s.number(8, 0, most) }
	text := func() []byte { return []byte(s.text(0, most, any)) }
	if !bytes.HasPrefix(b, []byte("HLG1")) {
		return api.Tables{}, false
	}
	s.at = 4
	x := api.Tables{Next: number(), Expects: number(), Last: number(), Reset: string(text())}
	for n := number(); n > 0 && s.fault < 0; n-- {
		o := api.Out{Control: string(text()), Text: text(), Cond: s.cond(), Number: number()}
		o.Noted = s.number(1, 0, 1) == 1
		x.Out = append(x.Out, o)
	}
	for n := number(); n > 0 && s.fault < 0; n-- {
		x.In = append(x.In, api.InEntry{Control: string(text()), Text: text(), Number: number(), Tick: number(), Commit: text(), Code: string(text()), Answer: text()})
	}
	return x, s.fault < 0 && s.at == len(b) && faultOf(terms, x) == 0
}

// unpacks holds Unpack against the model, and whatever it answers against Pack.
func unpacks(t *testing.T, terms api.Terms, b []byte) {
	t.Helper()
	x, err := Unpack(terms, b)
	want, ok := tablesOf(terms, b)
	if !ok {
		refused(t, "Unpack", err, api.ErrForm, 0)
		if !isNone(x) {
			t.Fatalf("tables beside an error: %+v", x)
		}
		return
	}
	if err != nil || !isSame(x, want) {
		t.Fatalf("Unpack: %+v, %v; want %+v", x, err, want)
	}
	back, err := Pack(terms, x)
	if err != nil || !bytes.Equal(back, b) {
		t.Fatalf("Pack of what was read: % X, %v; want % X", back, err, b)
	}
}

// small gives tables whose snapshot is short and has every field.
func small(terms api.Terms) api.Tables {
	x := api.Tables{
		Out: []api.Out{{Control: "a", Text: []byte("m"), Cond: success, Noted: true}, {Control: "b", Text: []byte("n")}},
		In:  []api.InEntry{{Control: "c", Text: []byte("o"), Tick: 1, Code: "AA", Answer: []byte("y")}, {Control: "d", Text: []byte("p"), Tick: 2, Commit: []byte("z")}},
	}
	if terms.Sends {
		x.Next, x.Out[0].Number = 3, 2
	}
	if terms.Takes {
		x.Expects, x.Last, x.Reset, x.In[1].Number = 6, 5, "r", 5
	}
	return x
}

// fullest gives the tables of the most bytes that may be.
func fullest(terms api.Terms) api.Tables {
	id := func(i int) string { return strings.Repeat("x", 15) + strconv.Itoa(100+i) }
	fill := func(n, i int) []byte { return bytes.Repeat([]byte{byte(i)}, n) }
	var x api.Tables
	for i := range 32 {
		x.Out = append(x.Out, api.Out{Control: id(i), Text: fill(longest, i), Cond: success, Noted: true})
	}
	for i := range 32 + terms.Keep + 1 {
		e := api.InEntry{Control: id(i), Text: fill(longest, i), Number: top, Tick: latest, Commit: fill(mostAns, i)}
		if i%3 != 0 || i >= 96 {
			e.Code, e.Answer = "AE", fill(mostAns, i)
		}
		x.In = append(x.In, e)
	}
	if terms.Sends {
		x.Next, x.Out[0].Number = top, top
	}
	if terms.Takes {
		x.Expects, x.Last, x.Reset = top+1, top, id(0)
	}
	return x
}

func TestP1604Bytes(t *testing.T) {
	terms := api.Terms{Sends: true, Takes: true, Keep: 2}
	b, err := Pack(terms, small(terms))
	done(t, err)
	want := strings.ReplaceAll("484c4731 0000000000000003 0000000000000006 0000000000000005 00000001 72"+
		" 0000000000000002"+
		" 00000001 61 00000001 6d 010303 0000000000000002 01"+
		" 00000001 62 00000001 6e 000000 0000000000000000 00"+
		" 0000000000000002"+
		" 00000001 63 00000001 6f 0000000000000000 0000000000000001 00000000 00000002 4141 00000001 79"+
		" 00000001 64 00000001 70 0000000000000005 0000000000000002 00000001 7a 00000000 00000000", " ", "")
	if got := hex.EncodeToString(b); got != want {
		t.Errorf("%s, want %s", got, want)
	}
	b, err = Pack(api.Terms{Keep: 1}, api.Tables{})
	if err != nil || hex.EncodeToString(b) != "484c4731"+strings.Repeat("0000000000000000", 3)+"00000000"+strings.Repeat("0000000000000000", 2) {
		t.Errorf("of nothing: % X, %v", b, err)
	}
}

func TestP1604ThereAndBack(t *testing.T) {
	for _, keep := range []int{2, 63, 64} {
		for _, terms := range allTerms(keep) {
			begin, err := Begin(terms)
			done(t, err)
			for _, x := range []api.Tables{begin, full(terms), small(terms), {}} {
				b, err := Pack(terms, x)
				if err != nil || !bytes.Equal(b, snapshotOf(x)) {
					t.Fatalf("Pack: % X, %v", b, err)
				}
				y, err := Unpack(terms, b)
				if err != nil || !isSame(x, y) {
					t.Fatalf("%+v, %v; want %+v", y, err, x)
				}
				unpacks(t, terms, b)
			}
		}
	}
}

func TestP1604Fullest(t *testing.T) {
	for _, keep := range []int{1, 64} {
		for _, terms := range allTerms(keep) {
			x := fullest(terms)
			// With a smaller Keep there are too many decided ones: as many as may be go on.
			for i, n := 0, 0; i < len(x.In); i++ {
				if x.In[i].Code != "" {
					n++
				}
				if x.In[i].Code != "" && n > keep+1 {
					x.In = slices.Delete(x.In, i, i+1)
					i--
				}
			}
			done(t, Check(terms, x))
			b, err := Pack(terms, x)
			done(t, err)
			if len(b) > 2097152 || !bytes.Equal(b, snapshotOf(x)) {
				t.Fatalf("%d bytes", len(b))
			}
			y, err := Unpack(terms, b)
			if err != nil || !isSame(x, y) {
				t.Fatalf("it does not come back: %v", err)
			}
			for _, n := range []int{1, 4, 1000, len(b) / 2, len(b) - 1} {
				_, err := Unpack(terms, b[:n])
				refused(t, "a beginning", err, api.ErrForm, 0)
			}
			_, err = Unpack(terms, append(b, 0))
			refused(t, "a byte behind", err, api.ErrForm, 0)
		}
	}
	terms := api.Terms{Sends: true, Takes: true, Keep: 64}
	if x := fullest(terms); len(x.Out) != 32 || len(x.In) != 97 || faultOf(terms, x) != 0 {
		t.Errorf("%d, %d: not the fullest: %d", len(x.Out), len(x.In), faultOf(terms, x))
	}
}

func TestP1604EveryBeginning(t *testing.T) {
	for _, terms := range allTerms(2) {
		for _, x := range []api.Tables{small(terms), full(terms), {}} {
			b, err := Pack(terms, x)
			done(t, err)
			for n := range b {
				_, err := Unpack(terms, b[:n])
				refused(t, "a beginning", err, api.ErrForm, 0)
			}
			for _, more := range []string{"\x00", "HLG1", string(b)} {
				_, err := Unpack(terms, append(slices.Clone(b), more...))
				refused(t, "bytes behind the end", err, api.ErrForm, 0)
			}
		}
	}
}

func TestP1604EachByteChanged(t *testing.T) {
	for _, terms := range allTerms(2) {
		for _, x := range []api.Tables{small(terms), {}} {
			b := snapshotOf(x)
			for i := range b {
				for v := range 256 {
					c := slices.Clone(b)
					c[i] = byte(v)
					unpacks(t, terms, c)
				}
			}
		}
	}
}

// What Check refuses is no snapshot either, though each byte of it is laid as it must be.
func TestP1604TablesThatMayNotBe(t *testing.T) {
	for _, terms := range allTerms(2) {
		for _, one := range twists(terms) {
			x := full(terms)
			one.do(&x)
			_, err := Unpack(terms, snapshotOf(x))
			refused(t, one.what, err, api.ErrForm, 0)
		}
		for _, c := range wrongConds() {
			x := full(terms)
			x.Out[0].Cond = c
			unpacks(t, terms, snapshotOf(x))
		}
	}
}

// A snapshot hangs on the terms: of other ones it is none, where a number or a Resync stands that may not be.
func TestP1604OtherTerms(t *testing.T) {
	for i, terms := range allTerms(2) {
		for j, others := range allTerms(2) {
			b, err := Pack(terms, full(terms))
			done(t, err)
			_, err = Unpack(others, b)
			if need := i &^ j; need != 0 {
				refused(t, "other terms", err, api.ErrForm, 0)
			} else {
				done(t, err)
			}
			unpacks(t, others, b)
		}
		b, err := Pack(terms, full(terms))
		done(t, err)
		terms.Keep = 1
		_, err = Unpack(terms, b)
		refused(t, "a smaller Keep", err, api.ErrForm, 0)
	}
}

// Counts that are far beyond what follows them.
func TestP1604CountsAndLengths(t *testing.T) {
	terms := api.Terms{Keep: 64}
	none := snapshotOf(api.Tables{})
	for _, at := range []int{4, 12, 20, 28, 32, 40} {
		for _, v := range []string{"\xFF\xFF\xFF\xFF", "\x80\x00\x00\x00", "\x7F\xFF\xFF\xFF", "\x00\x00\x00\x21", "\x00\x00\x00\x62", "\x01\x00\x00\x00"} {
			for _, by := range []int{0, 4} {
				c := slices.Clone(none)
				if at+by+4 > len(c) {
					continue
				}
				copy(c[at+by:], v)
				_, err := Unpack(terms, c)
				refused(t, "a count", err, api.ErrForm, 0)
			}
		}
	}
	for _, b := range []string{"", "H", "HLG", "HLG2", "hlg1", "HWL1"} {
		_, err := Unpack(terms, []byte(b+string(none[4:])))
		refused(t, "other letters", err, api.ErrForm, 0)
		_, err = Unpack(terms, []byte(b))
		refused(t, "few bytes", err, api.ErrForm, 0)
	}
}
