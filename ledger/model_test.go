package ledger

import (
	"bytes"
	"encoding/binary"
	"errors"
	"math"
	"reflect"
	"regexp"
	"slices"
	"testing"

	"courier/api"
)

const (
	top     = 2147483647
	latest  = 1099511627776
	longest = 8192
	mostAns = 2048
)

// Conditions of all kinds, by what may come of them.
var (
	original = api.Conditions{}
	always   = api.Conditions{Enhanced: true, Accept: api.CondAL, App: api.CondAL}
	never    = api.Conditions{Enhanced: true}
	onError  = api.Conditions{Enhanced: true, Accept: api.CondER, App: api.CondER}
	success  = api.Conditions{Enhanced: true, Accept: api.CondSU, App: api.CondSU}
)

var names = regexp.MustCompile(`\A[0-9A-Za-z.-]{1,18}\z`)

// allTerms are the four terms with that Keep.
func allTerms(keep int) []api.Terms {
	return []api.Terms{{Keep: keep}, {Sends: true, Keep: keep}, {Takes: true, Keep: keep}, {Sends: true, Takes: true, Keep: keep}}
}

// allConds are the seventeen conditions that are right.
func allConds() []api.Conditions {
	list := []api.Conditions{{}}
	for accept := range 4 {
		for app := range 4 {
			list = append(list, api.Conditions{Enhanced: true, Accept: accept, App: app})
		}
	}
	return list
}

func wrongConds() []api.Conditions {
	return []api.Conditions{{Accept: 1}, {App: 1}, {Accept: 3, App: 3}, {App: -1}, {Accept: 256}, {App: 256},
		{Enhanced: true, Accept: 4}, {Enhanced: true, App: 4}, {Enhanced: true, Accept: -1}, {Enhanced: true, App: -1},
		{Enhanced: true, Accept: 256}, {Enhanced: true, App: 257}, {Enhanced: true, Accept: math.MinInt}, {Enhanced: true, App: math.MaxInt}}
}

// refused: the error is this layer's Fault with that number, at that place, and nothing under it.
func refused(t *testing.T, what string, err error, code api.Errno, at int) {
	t.Helper()
	var f *api.Fault
	if !errors.As(err, &f) {
		t.Fatalf("%s: %v, want number %d at %d", what, err, code, at)
	}
	if *f != (api.Fault{Layer: "ledger", At: at, Code: code}) || !errors.Is(err, code) {
		t.Fatalf("%s: %+v, want number %d at %d", what, *f, code, at)
	}
}

// passed: the error is this layer's with the number of the log's fault, which stands under it; inmost is the number that errors.Is finds.
func passed(t *testing.T, what string, err error, code, inmost api.Errno) {
	t.Helper()
	var f, under *api.Fault
	if !errors.As(err, &f) || f.Layer != "ledger" || f.At != 0 || f.Code != code {
		t.Fatalf("%s: %v, want number %d", what, err, code)
	}
	if !errors.As(f.Under, &under) || under.Layer != "wal" || under.Code != code || !errors.Is(err, inmost) {
		t.Fatalf("%s: under is %v", what, f.Under)
	}
	if disk := (*api.Fault)(nil); errors.As(under.Under, &disk) != (code == api.ErrDisk) || disk != nil && disk.Layer != "disk" {
		t.Fatalf("%s: under the log's is %v", what, under.Under)
	}
}

func done(t *testing.T, errs ...error) {
	t.Helper()
	for _, err := range errs {
		if err != nil {
			t.Fatal(err)
		}
	}
}

func isSameOut(a, b api.Out) bool {
	return a.Control == b.Control && bytes.Equal(a.Text, b.Text) && a.Cond == b.Cond && a.Number == b.Number && a.Noted == b.Noted
}

func isSameIn(a, b api.InEntry) bool {
	return a.Control == b.Control && bytes.Equal(a.Text, b.Text) && a.Number == b.Number && a.Tick == b.Tick &&
		bytes.Equal(a.Commit, b.Commit) && a.Code == b.Code && bytes.Equal(a.Answer, b.Answer)
}

func isSame(x, y api.Tables) bool {
	return x.Next == y.Next && x.Expects == y.Expects && x.Last == y.Last && x.Reset == y.Reset &&
		slices.EqualFunc(x.Out, y.Out, isSameOut) && slices.EqualFunc(x.In, y.In, isSameIn)
}

func isNone(x api.Tables) bool { return isSame(x, api.Tables{}) }

func isSameRecord(a, b api.Record) bool {
	one := func(r api.Record) api.Record {
		r.Text, r.Commit, r.Answer = nil, nil, nil
		return r
	}
	return reflect.DeepEqual(one(a), one(b)) && bytes.Equal(a.Text, b.Text) && bytes.Equal(a.Commit, b.Commit) && bytes.Equal(a.Answer, b.Answer)
}

// deep copies tables with their texts.
func deep(x api.Tables) api.Tables {
	x.Out, x.In = slices.Clone(x.Out), slices.Clone(x.In)
	for i, o := range x.Out {
		x.Out[i].Text = slices.Clone(o.Text)
	}
	for i, e := range x.In {
		x.In[i].Text, x.In[i].Commit, x.In[i].Answer = slices.Clone(e.Text), slices.Clone(e.Commit), slices.Clone(e.Answer)
	}
	return x
}

// What follows says the chapter's words once more, without the layers below.

func inBounds(n, least, most int) bool { return least <= n && n <= most }

func isRightCond(c api.Conditions) bool { return slices.Contains(allConds(), c) }

// comes says whether a code may come of conditions that are right.
func comes(c api.Conditions, code string) bool {
	by := func(n int, words ...int) bool { return c.Enhanced && slices.Contains(words, n) }
	switch code {
	case "CA":
		return by(c.Accept, api.CondAL, api.CondSU)
	case "CE", "CR":
		return by(c.Accept, api.CondAL, api.CondER)
	case "AA":
		return !c.Enhanced || by(c.App, api.CondAL, api.CondSU)
	case "AE", "AR":
		return !c.Enhanced || by(c.App, api.CondAL, api.CondER)
	}
	return false
}

func verdicts() []string { return []string{"AA", "AE", "AR"} }

func codes() []string { return []string{"AA", "AE", "AR", "CA", "CE", "CR"} }

// wells has the rules of the chapter's table: by kind, and by the field's number.
func wells() map[int]map[int]func(r api.Record) bool {
	type rule = func(r api.Record) bool
	control := func(r api.Record) bool { return names.MatchString(r.Control) }
	text := func(r api.Record) bool { return inBounds(len(r.Text), 1, longest) }
	number := func(least int) rule {
		return func(r api.Record) bool { return inBounds(r.Number, least, top) }
	}
	final := func(r api.Record) bool {
		if r.State == 4 {
			return slices.Contains(codes(), r.Code)
		}
		return r.Code == ""
	}
	return map[int]map[int]rule{
		1: {2: control, 3: text, 4: func(r api.Record) bool { return isRightCond(r.Cond) }},
		2: {2: control, 5: number(1)},
		3: {2: control},
		4: {2: control, 7: func(r api.Record) bool { return inBounds(r.State, 4, 6) }, 8: final},
		5: {2: control, 3: text, 5: number(0), 6: func(r api.Record) bool { return inBounds(r.Tick, 0, latest) },
			9: func(r api.Record) bool { return len(r.Commit) <= mostAns }},
		6: {2: control, 8: func(r api.Record) bool { return slices.Contains(verdicts(), r.Code) },
			10: func(r api.Record) bool { return len(r.Answer) <= mostAns }},
		7: {5: number(0)},
		8: {2: control},
	}
}

// flawOf says the number of the first field that is not well or should be zero; 0: none.
func flawOf(r api.Record) int {
	rules := wells()[r.Kind]
	if rules == nil {
		return 1
	}
	v := reflect.ValueOf(r)
	for n := 2; n <= v.NumField(); n++ {
		f := v.Field(n - 1)
		well := f.IsZero() || f.Kind() == reflect.Slice && f.Len() == 0
		if rule := rules[n]; rule != nil {
			well = rule(r)
		}
		if !well {
			return n
		}
	}
	return 0
}

// faultOf says the number of the first table that may not be; 0: none.
func faultOf(t api.Terms, x api.Tables) int {
	receives := x.Expects == 0 && x.Last == 0
	if t.Takes && !receives {
		receives = x.Last == 0 && inBounds(x.Expects, 1, top) || inBounds(x.Last, 1, top) && x.Expects == x.Last+1
	}
	switch {
	case !inBounds(x.Next, 0, top) || !t.Sends && x.Next != 0:
		return 1
	case !inBounds(x.Expects, 0, top+1) || !t.Takes && x.Expects != 0:
		return 2
	case !receives:
		return 3
	case x.Reset != "" && (!t.Takes || !names.MatchString(x.Reset)):
		return 4
	case !isOut(t, x.Out):
		return 5
	case !isIn(t, x.In):
		return 6
	}
	return 0
}

func isOut(t api.Terms, list []api.Out) bool {
	for i, o := range list {
		if !names.MatchString(o.Control) || placeIn(list, o.Control) < i || !inBounds(len(o.Text), 1, longest) || !isRightCond(o.Cond) {
			return false
		}
		if o.Noted && !comes(o.Cond, "CA") || o.Number != 0 && (!t.Sends || i > 0 || !inBounds(o.Number, 1, top)) {
			return false
		}
	}
	return len(list) <= 32
}

func isIn(t api.Terms, list []api.InEntry) bool {
	decided := 0
	for i, e := range list {
		if !names.MatchString(e.Control) || placeOfEntry(list, e.Control) < i || !inBounds(len(e.Text), 1, longest) ||
			!inBounds(e.Number, 0, top) || !inBounds(e.Tick, 0, latest) || len(e.Commit) > mostAns || len(e.Answer) > mostAns {
			return false
		}
		if e.Code == "" && len(e.Answer) > 0 || e.Code != "" && !slices.Contains(verdicts(), e.Code) || i > 0 && e.Tick < list[i-1].Tick {
			return false
		}
		if e.Code != "" {
			decided++
		}
	}
	return decided <= t.Keep+1 && len(list)-decided <= 32
}

func placeIn(list []api.Out, control string) int {
	for i, o := range list {
		if o.Control == control {
			return i
		}
	}
	return -1
}

func placeOfEntry(list []api.InEntry, control string) int {
	for i, e := range list {
		if e.Control == control {
			return i
		}
	}
	return -1
}

// makes says what a record that is written well makes of tables that may be, and whether it may follow them.
func makes(t api.Terms, x api.Tables, r api.Record) (api.Tables, bool) {
	y, at := deep(x), placeIn(x.Out, r.Control)
	switch r.Kind {
	case 1:
		y.Out = append(y.Out, api.Out{Control: r.Control, Text: slices.Clone(r.Text), Cond: r.Cond})
		return y, at < 0 && len(x.Out) < 32
	case 2:
		if at != 0 || !t.Sends {
			return y, false
		}
		y.Out[0].Number, y.Next = r.Number, r.Number+1
		if r.Number == top {
			y.Next = 0
		}
	case 3:
		if at < 0 || x.Out[at].Noted || !comes(x.Out[at].Cond, "CA") {
			return y, false
		}
		y.Out[at].Noted = true
	case 4:
		if at < 0 || t.Sends && at != 0 || r.State == 4 && !comes(x.Out[at].Cond, r.Code) {
			return y, false
		}
		y.Out = append(y.Out[:at], y.Out[at+1:]...)
	case 5, 6:
		return makesIn(t, y, r)
	case 7:
		y.Next = r.Number
		return y, t.Sends && (len(x.Out) == 0 || x.Out[0].Number == 0)
	case 8:
		y.Expects, y.Last, y.Reset = 0, 0, r.Control
		return y, t.Takes && r.Control != x.Reset
	}
	return y, true
}

// makesIn: of kinds 5 and 6; y is its own.
func makesIn(t api.Terms, y api.Tables, r api.Record) (api.Tables, bool) {
	at := placeOfEntry(y.In, r.Control)
	if r.Kind == 6 {
		if at < 0 || y.In[at].Code != "" {
			return y, false
		}
		y.In[at].Code, y.In[at].Answer = r.Code, slices.Clone(r.Answer)
		y.In = keptOf(t.Keep, y.In)
		return y, true
	}
	open := 0
	for _, e := range y.In {
		if e.Code == "" {
			open++
		}
	}
	if at >= 0 || open >= 32 || len(y.In) > 0 && r.Tick < y.In[len(y.In)-1].Tick {
		return y, false
	}
	if t.Takes && (r.Number == 0 || y.Expects != 0 && y.Expects != r.Number) || !t.Takes && r.Number != 0 {
		return y, false
	}
	if t.Takes {
		y.Expects, y.Last = r.Number+1, r.Number
	}
	y.In = append(y.In, api.InEntry{Control: r.Control, Text: slices.Clone(r.Text), Number: r.Number, Tick: r.Tick, Commit: slices.Clone(r.Commit)})
	return y, true
}

// keptOf are the open ones, and each decided one behind which at most keep decided ones stand.
func keptOf(keep int, list []api.InEntry) []api.InEntry {
	var kept []api.InEntry
	for i, e := range list {
		behind := 0
		for _, f := range list[i+1:] {
			if f.Code != "" {
				behind++
			}
		}
		if e.Code == "" || behind <= keep {
			kept = append(kept, e)
		}
	}
	return kept
}

func numberBytes(n int) []byte { return binary.BigEndian.AppendUint64(nil, uint64(n)) }

func textBytes[T string | []byte](s T) []byte {
	return append(binary.BigEndian.AppendUint32(nil, uint32(len(s))), s...)
}

func flagBytes(b bool) []byte {
	if b {
		return []byte{1}
	}
	return []byte{0}
}

func condBytes(c api.Conditions) []byte {
	return append(flagBytes(c.Enhanced), byte(c.Accept), byte(c.App))
}

// bytesOf lays a record that is written well.
func bytesOf(r api.Record) []byte {
	kind, control := []byte{byte(r.Kind)}, textBytes(r.Control)
	switch r.Kind {
	case 1:
		return slices.Concat(kind, control, textBytes(r.Text), condBytes(r.Cond))
	case 2:
		return slices.Concat(kind, control, numberBytes(r.Number))
	case 4:
		return slices.Concat(kind, control, numberBytes(r.State), textBytes(r.Code))
	case 5:
		return slices.Concat(kind, control, textBytes(r.Text), numberBytes(r.Number), numberBytes(r.Tick), textBytes(r.Commit))
	case 6:
		return slices.Concat(kind, control, textBytes(r.Code), textBytes(r.Answer))
	case 7:
		return slices.Concat(kind, numberBytes(r.Number))
	}
	return slices.Concat(kind, control)
}

// snapshotOf lays tables.
func snapshotOf(x api.Tables) []byte {
	b := slices.Concat([]byte("HLG1"), numberBytes(x.Next), numberBytes(x.Expects), numberBytes(x.Last), textBytes(x.Reset), numberBytes(len(x.Out)))
	for _, o := range x.Out {
		b = slices.Concat(b, textBytes(o.Control), textBytes(o.Text), condBytes(o.Cond), numberBytes(o.Number), flagBytes(o.Noted))
	}
	b = append(b, numberBytes(len(x.In))...)
	for _, e := range x.In {
		b = slices.Concat(b, textBytes(e.Control), textBytes(e.Text), numberBytes(e.Number), numberBytes(e.Tick), textBytes(e.Commit), textBytes(e.Code), textBytes(e.Answer))
	}
	return b
}
