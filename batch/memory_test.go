package batch

import (
	"fmt"
	"math/rand/v2"
	"reflect"
	"slices"
	"strings"
	"testing"

	"courier/api"
)

// P2007, and what DOC.md says of memory.

// junk makes a value of a type that nobody asked for.
func junk(t reflect.Type) reflect.Value {
	v := reflect.New(t).Elem()
	switch t.Kind() {
	case reflect.String:
		v.SetString("junk")
	case reflect.Slice:
		v.Set(reflect.Append(v, junk(t.Elem())))
	case reflect.Struct:
		for i := range t.NumField() {
			v.Field(i).Set(junk(t.Field(i).Type))
		}
	}
	return v
}

// roomy copies a value, with room behind each of its lists, and something in the room.
func roomy[E any](e E) E { return roomyValue(reflect.ValueOf(e)).Interface().(E) }

func roomyValue(v reflect.Value) reflect.Value {
	made := reflect.New(v.Type()).Elem()
	switch v.Kind() {
	case reflect.Slice:
		wide := reflect.MakeSlice(v.Type(), v.Len()+2, v.Len()+2)
		for i := range wide.Len() {
			if i < v.Len() {
				wide.Index(i).Set(roomyValue(v.Index(i)))
			} else {
				wide.Index(i).Set(junk(v.Type().Elem()))
			}
		}
		made.Set(wide.Slice(0, v.Len()))
	case reflect.Struct:
		for i := range v.NumField() {
			made.Field(i).Set(roomyValue(v.Field(i)))
		}
	default:
		made.Set(v)
	}
	return made
}

// whole tells a value with the room behind its lists as if it belonged to them.
func whole(e any) string { return wholeValue(reflect.ValueOf(e)) }

func wholeValue(v reflect.Value) string {
	var s strings.Builder
	switch v.Kind() {
	case reflect.Slice:
		fmt.Fprintf(&s, "%d[", v.Len())
		for i := range v.Cap() {
			s.WriteString(wholeValue(v.Slice(0, v.Cap()).Index(i)) + ",")
		}
		s.WriteString("]")
	case reflect.Struct:
		for i := range v.NumField() {
			s.WriteString(wholeValue(v.Field(i)) + ";")
		}
	default:
		fmt.Fprintf(&s, "%q", fmt.Sprint(v))
	}
	return s.String()
}

// lists goes over every list of a value, those inside of lists first.
func lists(v reflect.Value, do func(list reflect.Value)) {
	switch v.Kind() {
	case reflect.Slice:
		for i := range v.Len() {
			lists(v.Index(i), do)
		}
		do(v)
	case reflect.Struct:
		for i := range v.NumField() {
			lists(v.Field(i), do)
		}
	}
}

// spoil writes over all lists of a value, and the room behind them.
func spoil(e any) {
	lists(reflect.ValueOf(e), func(list reflect.Value) {
		list = list.Slice(0, list.Cap())
		for i := range list.Len() {
			list.Index(i).Set(junk(list.Type().Elem()))
		}
	})
}

// apart tells whether no two lists of all these values share memory, room behind their ends included.
func apart(values ...any) bool {
	type stretch struct{ from, to uintptr }
	var all []stretch
	for _, e := range values {
		lists(reflect.ValueOf(e), func(list reflect.Value) {
			if list.Cap() > 0 {
				all = append(all, stretch{list.Pointer(), list.Pointer() + uintptr(list.Cap())*list.Type().Elem().Size()})
			}
		})
	}
	slices.SortFunc(all, func(a, b stretch) int {
		if a.from < b.from {
			return -1
		}
		return 1
	})
	for i := 1; i < len(all); i++ {
		if all[i].from < all[i-1].to {
			return false
		}
	}
	return true
}

// rich is a text with lists of every kind, several of each.
const rich = "FHS|^~\\&|a&b^c~d||e\rBHS|^~\\&|f^g|h\r" + msgA + msgB + "PID|1\r" + msgA + "BTS|3|x^y~z&w\rBHS|^~\\&|f^g|h\r" + msgB + msgB + "BTS|2|x\rFTS|2|x|y\r"

func TestP2007Parse(t *testing.T) {
	for _, text := range []string{rich, msgA, msgA + msgB + msgA + "PID", textOf("BMMiT"), many(64, 4), strings.Repeat(msgA, 256)} {
		f, err := Parse(text)
		g, err2 := Parse(text)
		l, err3 := Split(text)
		l2, err4 := Split(text)
		if err != nil || err2 != nil || err3 != nil || err4 != nil {
			t.Fatalf("%v, %v, %v, %v", err, err2, err3, err4)
		}
		if !apart(f, g, l, l2) {
			t.Errorf("P2007: %.100q: lists share memory", text)
		}
		was, split := shape(f), fmt.Sprintf("%q", l)
		spoil(g)
		spoil(l2)
		if shape(f) != was || fmt.Sprintf("%q", l) != split {
			t.Errorf("P2007: %.100q: an answer has changed with another one", text)
		}
		if again, err := Parse(text); err != nil || shape(again) != was {
			t.Errorf("P2007: %.100q: read otherwise behind a change of an answer", text)
		}
	}
}

// TestP2007HandedIn: no call changes a file, its room, lists of messages or acknowledgements.
func TestP2007HandedIn(t *testing.T) {
	r := rand.New(rand.NewPCG(20, 8))
	for n := range 600 {
		f := roomy(someFile(r, n%8))
		if n == 0 {
			g, _ := Parse(rich)
			f = roomy(g)
		}
		var batches [][]string
		acks := []string{ackOf("A1"), head + "\rMSA|AA|A2", ackOf("C"), ""}
		for _, b := range f.Batches {
			batches = append(batches, b.Messages)
		}
		batches, acks = roomy(batches), roomy(acks[:r.IntN(4)])
		was := []string{whole(f), whole(batches), whole(acks)}
		Print(f)
		Wrap(usual, "A", "", "2026", "C", batches)
		Wrap(other, "A", "", "2026", "C", batches)
		for i := range len(f.Batches) + 1 {
			Answer(f, i, acks)
		}
		if whole(f) != was[0] || whole(batches) != was[1] || whole(acks) != was[2] {
			t.Fatalf("P2007: a call has changed what was handed in: %s", was)
		}
	}
}

func TestP2007Answers(t *testing.T) {
	f := roomy(three())
	acks := roomy([]string{ackOf("B3"), ackOf("B1"), ackOf("B2")})
	a, err := Answer(f, 1, acks)
	b, err2 := Answer(f, 1, acks)
	if err != nil || err2 != nil || !apart(f, acks, a, b) {
		t.Fatalf("P2007: lists share memory: %v, %v", err, err2)
	}
	want := []string{ackOf("B1"), ackOf("B2"), ackOf("B3")}
	spoil(a)
	spoil(f)
	spoil(acks)
	if !slices.Equal(b.Messages, want) {
		t.Errorf("P2007: an answer has changed to %q", b.Messages)
	}
	answers(t, three(), 1, []string{ackOf("B3"), ackOf("B1"), ackOf("B2")}, want...)
	// One acknowledgement, in the order in which it stood: no list of the argument.
	acks = roomy([]string{ackOf("A1"), ackOf("A2")})
	b, err = Answer(three(), 0, acks)
	if err != nil || !apart(acks, b) {
		t.Errorf("P2007: the answer is the list that was handed in: %v", err)
	}
}

// TestP2007NilAndEmpty: lists without an element mean the same, nil or not.
func TestP2007NilAndEmpty(t *testing.T) {
	none, empty := []api.Seg(nil), []api.Seg{}
	for _, head := range [][]api.Seg{none, empty} {
		for _, tail := range [][]api.Seg{none, empty} {
			writes(t, "no heads", api.File{Head: head, Tail: tail, Batches: []api.Batch{{Head: tail, Tail: head, Messages: []string{msgA}}}}, msgA)
			refusesFile(t, "no messages", api.File{Head: head, Tail: tail, Batches: []api.Batch{{Messages: []string{}}}}, no(api.ErrFile, 0))
			refusesFile(t, "no batches", api.File{Head: head, Tail: tail, Batches: []api.Batch{}}, no(api.ErrFile, -1))
		}
	}
	f := filed(headed(msgA))
	f.Head[0].Fields = []api.Field{{Reps: []api.Rep{}}, {Reps: []api.Rep{{Comps: []api.Comp{}}, {Comps: []api.Comp{{Subs: []string{}}}}}}}
	f.Tail[0].Fields = []api.Field{{Reps: []api.Rep{{Comps: []api.Comp{{Subs: []string{""}}}}}}}
	writes(t, "empty fields", f, "FHS|^~\\&\rBHS|^~\\&\r"+msgA+"BTS\rFTS\r")
	answers(t, bare(asks("A1")), 0, nil)
	answers(t, bare(asks("A1")), 0, []string{})
}

// TestP2007OneAnswer: the same arguments, the same answer, whatever was asked between.
func TestP2007OneAnswer(t *testing.T) {
	r := rand.New(rand.NewPCG(20, 9))
	for range 300 {
		text, f := someText(r), someFile(r, 5)
		a, err := Parse(text)
		b, err2 := Print(f)
		Parse(someText(r))
		Print(someFile(r, 5))
		c, err3 := Parse(text)
		d, err4 := Print(f)
		if shape(a) != shape(c) || b != d || !reflect.DeepEqual(err, err3) || !reflect.DeepEqual(err2, err4) {
			t.Fatalf("P2007: %q, %s: another answer", text, shape(f))
		}
	}
}

// TestP2007SharedLists: a file whose lists are one list many times is a file like any other.
func TestP2007SharedLists(t *testing.T) {
	fields := slices.Repeat([]api.Field{{Reps: slices.Repeat([]api.Rep{{Comps: slices.Repeat([]api.Comp{{Subs: make([]string, 16)}}, 32)}}, 32)}}, 64)
	f := filed(slices.Repeat([]api.Batch{headed(msgA)}, 3)...)
	f.Head[0].Fields, f.Tail[0].Fields = fields, fields
	f.Batches[0].Head[0].Fields, f.Batches[0].Tail[0].Fields = fields, fields
	writes(t, "lists at their bounds", f, "FHS|^~\\&\r"+strings.Repeat("BHS|^~\\&\r"+msgA+"BTS\r", 3)+"FTS\r")
	fields[63].Reps[31].Comps[31].Subs[15] = "x"
	refusesFile(t, "lists at their bounds, and full", f, no(api.ErrForm, 0))
}

// TestP2007AnyBytes: no call panics, and all end.
func TestP2007AnyBytes(t *testing.T) {
	r := rand.New(rand.NewPCG(20, 10))
	some := func() string {
		b := make([]byte, r.IntN(40))
		for i := range b {
			b[i] = byte(r.IntN(256))
			if r.IntN(2) == 0 {
				b[i] = "MSHFBT|^~\\&\r"[r.IntN(12)]
			}
		}
		return pick(r, []string{"", "MSH|^~\\&", "FHS|^~\\&\r", "BHS"}) + string(b)
	}
	for range 20000 {
		text := some()
		reads(t, text)
		Split(text)
		f := api.File{Head: seg(some(), some()), Tail: seg(some(), some()), Batches: []api.Batch{{Head: seg(some()), Messages: []string{some(), text}, Tail: seg(some())}}}
		prints(t, f)
		prints(t, bare(text))
		Wrap(marksOf(some()+"|^~\\&"), some(), some(), some(), some(), [][]string{{text}, {some()}})
		Answer(bare(msgA), r.IntN(3)-1, []string{text, some()})
		Answer(f, r.IntN(3)-1, []string{text, some()})
	}
}
