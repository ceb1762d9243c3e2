package path

import (
	"slices"
	"strings"
	"testing"

	"courier/api"
	"courier/tree"
)

// P707 and P711: going over a message.

type told1 struct {
	place api.Place
	text  string
}

func walked(m api.Message) []told1 {
	var all []told1
	for p, text := range Walk(m) {
		all = append(all, told1{p, text})
	}
	return all
}

func (t table) walked() []told1 {
	var all []told1
	for _, s := range t.spots() {
		p := t.placeOf(s)
		text, _ := t.plain(p)
		all = append(all, told1{p, text})
	}
	return all
}

func TestP707Plain(t *testing.T) {
	m := mustParse(t, "MSH|^~\\&|LAB||a&\\T\\\rPID|1||77^^^A&1~88\rOBX|x\rZ01\rOBX|~^\\H\\^&y\rPID|\\.br\\\r")
	want := []told1{
		{at("MSH", 1, 3), "LAB"}, {at("MSH", 1, 5), "a"}, {at("MSH", 1, 5, 1, 1, 2), "&"},
		{at("PID", 1, 1), "1"}, {at("PID", 1, 3), "77"}, {at("PID", 1, 3, 1, 4), "A"}, {at("PID", 1, 3, 1, 4, 2), "1"}, {at("PID", 1, 3, 2), "88"},
		{at("OBX", 1, 1), "x"}, {at("OBX", 2, 1, 2, 2), ""}, {at("OBX", 2, 1, 2, 3, 2), "y"}, {at("PID", 2, 1), "\n"},
	}
	if got := walked(m); !slices.Equal(got, want) {
		t.Errorf("P707: %v", got)
	}
	if got := walked(mustParse(t, "MSH|^~\\&\rPID|||~^&|\r")); got != nil {
		t.Errorf("P707: of empty segments: %v", got)
	}
}

func TestP707Nothing(t *testing.T) {
	m := mustParse(t, "MSH|^~\\&|\\H\\|\\N\\^\\Z\\&\\Zab1\\|\\.in+3\\\\.ti-4\\|\\.ce\\\\.fi\\\\.nf\\|\\C1234\\\\M0A0B0C\\\r")
	got := walked(m)
	if len(got) != 7 {
		t.Errorf("P707: %v", got)
	}
	for _, g := range got {
		if g.text != "" {
			t.Errorf("P707: %v says %q", g.place, g.text)
		}
		if w, ok, err := Wire(m, g.place); w == "" || !ok || err != nil {
			t.Errorf("P707: nothing stands at %v", g.place)
		}
	}
}

func TestP707Refused(t *testing.T) {
	for _, m := range wrongMessages() {
		if got := walked(m); got != nil {
			t.Errorf("P707: of %v: %v", m, got)
		}
	}
	// Also where the fault is the last thing of a message.
	m := mustParse(t, small+"OBX|a\r")
	m.Segs[2].Fields[0].Reps[0].Comps[0].Subs[0] = "\t"
	walk := Walk(m)
	m.Segs[2].Fields[0].Reps[0].Comps[0].Subs[0] = "mended"
	for range walk {
		t.Error("P707: what was no message at the call is gone over")
	}
	if len(walked(m)) != 7 {
		t.Errorf("P707: %v", walked(m))
	}
}

func TestP707Random(t *testing.T) {
	r := dice(707)
	for range 10000 {
		m := randomMessage(r)
		want := tableOf(m).walked()
		if got := walked(m); !slices.Equal(got, want) {
			t.Fatalf("P707: %s:\n%v\nwant\n%v", shape(m), got, want)
		}
		for _, w := range want {
			if text, ok, err := Get(m, w.place); text != w.text || !ok || err != nil {
				t.Fatalf("P707: Get(%v): %q, %v, %v", w.place, text, ok, err)
			}
		}
	}
	m := longMessage()
	if got := walked(m); !slices.Equal(got, tableOf(m).walked()) || len(got) != 2 {
		t.Errorf("P707: of a message that is too long: %d", len(got))
	}
}

func TestP707Bounds(t *testing.T) {
	m := mustParse(t, "MSH|^~\\&"+strings.Repeat("|", 64)+"last\rPID|"+strings.Repeat("~", 31)+"r|"+strings.Repeat("^", 31)+"c|"+strings.Repeat("&", 15)+"s"+strings.Repeat("|", 61)+strings.Repeat("~", 31)+strings.Repeat("^", 31)+strings.Repeat("&", 15)+"end"+strings.Repeat("\rZ01", 125)+"\rZ01|126")
	want := []told1{{at("MSH", 1, 66), "last"}, {at("PID", 1, 1, 32), "r"}, {at("PID", 1, 2, 1, 32), "c"}, {at("PID", 1, 3, 1, 1, 16), "s"}, {at("PID", 1, 64, 32, 32, 16), "end"}, {at("Z01", 126), "126"}}
	if got := walked(m); !slices.Equal(got, want) {
		t.Errorf("P707: %v", got)
	}
}

func TestP707Again(t *testing.T) {
	m := mustParse(t, small+"PID|2|3\rOBX|4^5\r")
	want := walked(m)
	walk := Walk(m)
	for stop := range len(want) + 2 {
		var got []told1
	loop:
		for p, text := range walk {
			if len(got) == stop {
				break loop
			}
			got = append(got, told1{p, text})
		}
		if !slices.Equal(got, want[:min(stop, len(want))]) {
			t.Fatalf("P707: left behind %d: %v", stop, got)
		}
	}
	// Within itself: the inner loop tells all each time, and the outer one goes on where it was.
	var outer []told1
	for p, text := range walk {
		outer = append(outer, told1{p, text})
		var inner []told1
		for q, s := range walk {
			inner = append(inner, told1{q, s})
			if len(outer)%2 == 0 && len(inner) == 3 {
				break
			}
		}
		if len(outer)%2 == 1 && !slices.Equal(inner, want) {
			t.Fatalf("P707: within itself: %v", inner)
		}
	}
	if !slices.Equal(outer, want) {
		t.Errorf("P707: with a loop inside: %v", outer)
	}
	// A function that says false is not called again.
	calls := 0
	walk(func(api.Place, string) bool { calls++; return calls < 4 })
	if calls != 4 {
		t.Errorf("P707: %d calls", calls)
	}
}

func TestP707WrittenOver(t *testing.T) {
	m := mustParse(t, small+"PID|2|3\rOBX|4^5\r")
	want := walked(m)
	walk := Walk(m)
	scribble(m)
	for range 2 {
		var got []told1
		for p, text := range walk {
			got = append(got, told1{p, text})
		}
		if !slices.Equal(got, want) {
			t.Fatalf("P707: written over behind the call: %v", got)
		}
	}
	// And while it is gone over.
	m = mustParse(t, small+"PID|2|3\rOBX|4^5\r")
	var got []told1
	for p, text := range Walk(m) {
		got = append(got, told1{p, text})
		scribble(m)
		m.Marks = api.Marks{}
		m.Segs = nil
	}
	if !slices.Equal(got, want) {
		t.Errorf("P707: written over on the way: %v", got)
	}
}

// rebuilt sets what Walk tells of a message, in some order, into its marks and segments without fields.
func rebuilt(t *testing.T, m api.Message, order func(list []told1)) (api.Message, []told1) {
	t.Helper()
	n := api.Message{Marks: m.Marks}
	for _, s := range m.Segs {
		n.Segs = append(n.Segs, api.Seg{Name: s.Name})
	}
	var want []told1
	for p, text := range Walk(m) {
		if text != "" {
			want = append(want, told1{p, text})
		}
	}
	todo := slices.Clone(want)
	order(todo)
	for _, w := range todo {
		var err error
		if n, err = Set(n, w.place, w.text); err != nil {
			t.Fatalf("P711: Set(%v, %q): %v", w.place, w.text, err)
		}
	}
	return n, want
}

func TestP711Anew(t *testing.T) {
	r := dice(711)
	asTold := func([]told1) {}
	shuffled := func(list []told1) {
		r.Shuffle(len(list), func(i, j int) { list[i], list[j] = list[j], list[i] })
	}
	for range 1500 {
		m := randomMessage(r)
		n, want := rebuilt(t, m, asTold)
		if got := walked(n); !slices.Equal(got, want) {
			t.Fatalf("P711: %v, want %v", got, want)
		}
		other, _ := rebuilt(t, m, shuffled)
		if shape(n) != shape(other) {
			t.Fatalf("P710: set in another order:\n%s\n%s", shape(n), shape(other))
		}
	}
	// Where every text is written as Escape writes it, it is the message itself.
	m := mustParse(t, small+"OBX|a\\F\\b^\\X0D0A\\~\"\"&x\rPID||||y\r")
	n, _ := rebuilt(t, m, asTold)
	if !tree.Equal(m, n) {
		t.Errorf("P711:\n%s\n%s", shape(m), shape(n))
	}
}
