package audit

import (
	"strings"
	"testing"

	"courier/api"
)

// What is the same has one text, and what is not has another.

func TestTextsOfSeen(t *testing.T) {
	list := rising()
	for i, a := range list {
		for k, b := range list {
			if is := (seenList{a}).text() == (seenList{b}).text(); is != (i == k) {
				t.Errorf("%+v, %+v: %v", a, b, is)
			}
		}
	}
	a, b := up(0), up(1)
	texts := map[string]bool{}
	for _, l := range []seenList{nil, {a}, {a, a}, {a, b}, {b}, {b, a}} {
		texts[l.text()] = true
	}
	if len(texts) != 6 {
		t.Errorf("%d texts of 6 lists", len(texts))
	}
	empty := up(0)
	empty.Text, empty.Errors = []byte{}, []api.Finding{}
	if (seenList{empty}).text() != (seenList{a}).text() || (seenList{}).text() != seenList(nil).text() {
		t.Error("nil and empty are not the same")
	}
}

// Texts that run into one another are told apart.
func TestTextsEnd(t *testing.T) {
	seen := func(text, control, code string) string {
		return seenList{{Text: []byte(text), Control: control, Code: code}}.text()
	}
	texts := map[string]bool{}
	for _, x := range [][3]string{{"ab", "", ""}, {"a", "b", ""}, {"", "ab", ""}, {"", "a", "b"}, {"", "", "ab"}, {"a", "", "b"}, {"1 a", "", ""}, {"1 ", "a", ""}, {"", "1 a", ""}} {
		texts[seen(x[0], x[1], x[2])] = true
	}
	if len(texts) != 9 {
		t.Errorf("%d texts of 9", len(texts))
	}
	flights := map[string]bool{}
	for _, f := range []flight{
		{half: [2]int{-1, -1}},
		{pieces: [2][][]byte{{[]byte("ab")}}, half: [2]int{-1, -1}},
		{pieces: [2][][]byte{{[]byte("ab")}}, half: [2]int{0, -1}},
		{pieces: [2][][]byte{nil, {[]byte("ab")}}, half: [2]int{-1, -1}},
		{pieces: [2][][]byte{nil, {[]byte("ab")}}, half: [2]int{-1, 0}},
		{pieces: [2][][]byte{{[]byte("a"), []byte("b")}}, half: [2]int{-1, -1}},
		{pieces: [2][][]byte{{[]byte("b"), []byte("a")}}, half: [2]int{-1, -1}},
		{pieces: [2][][]byte{{[]byte("a")}, {[]byte("b")}}, half: [2]int{-1, -1}},
	} {
		flights[f.text()] = true
	}
	if len(flights) != 8 {
		t.Errorf("%d texts of 8", len(flights))
	}
	spots := map[string]bool{}
	for _, x := range []spot{{}, {1, [2]int{}}, {0, [2]int{1, 0}}, {0, [2]int{0, 1}}, {11, [2]int{1, 1}}, {1, [2]int{11, 1}}, {1, [2]int{1, 11}}} {
		spots[x.text()] = true
	}
	if len(spots) != 7 {
		t.Errorf("%d texts of 7", len(spots))
	}
}

// All that a side has tells it apart.
func TestTextsOfSides(t *testing.T) {
	full := func() *endpoint {
		x := newEndpoint(numbers(), 0)
		x.now, x.fuse, x.behind = 7, 7, 7
		x.waits = []api.Record{{Kind: api.RecOpen, Control: "R1"}, {Kind: api.RecNext, Number: 7}}
		x.mind = mind{
			written: 7, safe: 7, held: []api.Held{{Seen: up(0), After: 7}, {Seen: answered(0, "A1", "AA"), After: 7}},
			sent:      []sent{{Want: api.Want{State: 2, Left: 3}, under: true, due: 7}, {}},
			link:      question{api.LinkWait{Control: "L1", Next: 7, Left: 7, Due: 7}, "text"},
			delivered: []string{"B1", "B2"},
			frame:     frame{inside: true, kept: []byte("abc"), size: 7, garbage: 7},
		}
		return x
	}
	want := full().text()
	changes := map[string]func(x *endpoint){
		"the side":           func(x *endpoint) { x.rules = rulesOf(numbers(), 1) },
		"the clock":          func(x *endpoint) { x.now = 8 },
		"the fuse":           func(x *endpoint) { x.fuse = noFuse },
		"behind":             func(x *endpoint) { x.behind = 8 },
		"dead":               func(x *endpoint) { x.dead = true },
		"unsure":             func(x *endpoint) { x.unsure = true },
		"up":                 func(x *endpoint) { x.up = false },
		"tables, Next":       func(x *endpoint) { x.durable.Next = 2 },
		"tables, Out":        func(x *endpoint) { x.durable.Out = []api.Out{{Control: "A1", Text: []byte("t")}} },
		"tables, In":         func(x *endpoint) { x.durable.In = []api.InEntry{{Control: "A1", Text: []byte("t")}} },
		"a record less":      func(x *endpoint) { x.waits = x.waits[:1] },
		"a record more":      func(x *endpoint) { x.waits = append(x.waits, x.waits[0]) },
		"another record":     func(x *endpoint) { x.waits[1].Number = 8 },
		"records in turn":    func(x *endpoint) { x.waits[0], x.waits[1] = x.waits[1], x.waits[0] },
		"written":            func(x *endpoint) { x.written = 8 },
		"safe":               func(x *endpoint) { x.safe = 8 },
		"held, less":         func(x *endpoint) { x.held = x.held[:1] },
		"held, After":        func(x *endpoint) { x.held[1].After = 8 },
		"held, what is seen": func(x *endpoint) { x.held[1].Seen.Code = "AE" },
		"sent, less":         func(x *endpoint) { x.sent = x.sent[:1] },
		"sent, state":        func(x *endpoint) { x.sent[0].State = 1 },
		"sent, left":         func(x *endpoint) { x.sent[0].Left = 2 },
		"sent, under":        func(x *endpoint) { x.sent[0].under = false },
		"sent, due":          func(x *endpoint) { x.sent[0].due = 8 },
		"link, control":      func(x *endpoint) { x.link.Control = "L2" },
		"link, text":         func(x *endpoint) { x.link.text = "test" },
		"link, next":         func(x *endpoint) { x.link.Next = 8 },
		"link, left":         func(x *endpoint) { x.link.Left = 8 },
		"link, due":          func(x *endpoint) { x.link.Due = 8 },
		"link, reset":        func(x *endpoint) { x.link.Reset = true },
		"delivered, less":    func(x *endpoint) { x.delivered = x.delivered[:1] },
		"delivered, another": func(x *endpoint) { x.delivered[1] = "B3" },
		"delivered, in turn": func(x *endpoint) { x.delivered[0], x.delivered[1] = "B2", "B1" },
		"delivered, as one":  func(x *endpoint) { x.delivered = []string{"B1B2"} },
		"frame, inside":      func(x *endpoint) { x.frame.inside = false },
		"frame, ending":      func(x *endpoint) { x.frame.ending = true },
		"frame, bytes":       func(x *endpoint) { x.frame.kept = []byte("abd") },
		"frame, size":        func(x *endpoint) { x.frame.size = 8 },
		"frame, garbage":     func(x *endpoint) { x.frame.garbage = 8 },
	}
	texts := map[string]string{want: "nothing"}
	for name, change := range changes {
		x := full()
		change(x)
		text := x.text()
		if other, has := texts[text]; has {
			t.Errorf("%s and %s are not told apart", name, other)
		}
		texts[text] = name
	}
	if full().text() != want || full().copied().text() != want {
		t.Error("the same have two texts")
	}
	// nil and empty lists are the same.
	x, y := newEndpoint(numbers(), 0), newEndpoint(numbers(), 0)
	y.waits, y.held, y.sent, y.delivered, y.frame.kept = []api.Record{}, []api.Held{}, []sent{}, []string{}, []byte{}
	y.durable.Out, y.durable.In = []api.Out{}, []api.InEntry{}
	if x.text() != y.text() {
		t.Error("nil and empty are not the same")
	}
}

func TestShelf(t *testing.T) {
	var s shelf[seenList]
	for i, want := range []int{0, 1, 0, 2, 1, 2} {
		l := []seenList{nil, {up(0)}, {}, {up(1)}, {up(0)}, {up(1)}}[i]
		if at := s.put(l); at != want {
			t.Errorf("%d: at %d, want %d", i, at, want)
		}
	}
	if len(s.things) != 3 || strings.Count(s.things[2].text(), "5") == 0 {
		t.Errorf("%v", s.things)
	}
}
