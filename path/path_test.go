package path

import (
	"fmt"
	"slices"
	"strings"
	"testing"

	"courier/api"
	"courier/esc"
	"courier/tree"
)

// P703 to P706, P709 and P710: what stands at places, and what is put there.

const small = "MSH|^~\\&|LAB\rPID|1||77^^^A&1~88\r"

// wrongMessages are messages that tree.Valid refuses.
func wrongMessages() []api.Message {
	m := api.Message{Marks: common, Segs: []api.Seg{{Name: "MSH"}, {Name: "PID"}}}
	var all []api.Message
	add := func(change func(m *api.Message)) {
		n := api.Message{Marks: m.Marks, Segs: slices.Clone(m.Segs)}
		change(&n)
		all = append(all, n)
	}
	sub := func(s string) []api.Field {
		return []api.Field{{Reps: []api.Rep{{Comps: []api.Comp{{Subs: []string{s}}}}}}}
	}
	add(func(m *api.Message) { *m = api.Message{} })
	add(func(m *api.Message) { m.Marks = api.Marks{} })
	add(func(m *api.Message) { m.Marks.Sub = m.Marks.Field })
	add(func(m *api.Message) { m.Segs = nil })
	add(func(m *api.Message) { m.Segs[0].Name = "FHS" })
	add(func(m *api.Message) { m.Segs[1].Name = "MSH" })
	add(func(m *api.Message) { m.Segs[1].Name = "pid" })
	add(func(m *api.Message) { m.Segs[1].Name = "" })
	add(func(m *api.Message) { m.Segs = append(m.Segs, slices.Repeat(m.Segs[1:], 127)...) })
	add(func(m *api.Message) { m.Segs[1].Fields = make([]api.Field, 65) })
	add(func(m *api.Message) { m.Segs[0].Fields = make([]api.Field, 65) })
	add(func(m *api.Message) { m.Segs[1].Fields = []api.Field{{Reps: make([]api.Rep, 33)}} })
	add(func(m *api.Message) { m.Segs[1].Fields = []api.Field{{Reps: []api.Rep{{Comps: make([]api.Comp, 33)}}}} })
	add(func(m *api.Message) {
		m.Segs[1].Fields = []api.Field{{Reps: []api.Rep{{Comps: []api.Comp{{Subs: make([]string, 17)}}}}}}
	})
	for _, s := range []string{"\t", "a|b", "\\Q\\", "\\", "a&b", strings.Repeat("x", 8193)} {
		add(func(m *api.Message) { m.Segs[1].Fields = sub(s) })
		add(func(m *api.Message) { m.Segs[0].Fields = sub(s) })
	}
	return all
}

// reads holds Get, Wire and Count against a table at a right place.
func reads(t *testing.T, m api.Message, want table, p api.Place) {
	t.Helper()
	text, ok, err := Get(m, p)
	if wantText, wantOK := want.plain(p); text != wantText || ok != wantOK || err != nil {
		t.Fatalf("P703: Get(%q, %v): %q, %v, %v, want %q, %v", want.text(), p, text, ok, err, wantText, wantOK)
	}
	wire, ok, err := Wire(m, p)
	if wantWire, wantOK := want.wire(p); wire != wantWire || ok != wantOK || err != nil {
		t.Fatalf("P703: Wire(%q, %v): %q, %v, %v, want %q, %v", want.text(), p, wire, ok, err, wantWire, wantOK)
	}
	if n, err := Count(m, p); n != want.count(p) || err != nil {
		t.Fatalf("P705: Count(%q, %v): %d, %v, want %d", want.text(), p, n, err, want.count(p))
	}
}

func TestP703Plain(t *testing.T) {
	m := mustParse(t, "MSH|^~\\&|LAB|a\\T\\b\rPID|1||77^^^A&1~88\rOBX|x\rOBX|y^\\H\\^\\.sp2\\|\\X0D\\\rZ01")
	for _, c := range []struct {
		place       string
		plain, wire string
		ok          bool
	}{
		{"PID-3.4.2", "1", "1", true}, {"PID-3[2]", "88", "88", true}, {"PID-9", "", "", true}, {"PID-2", "", "", true},
		{"NK1-1", "", "", false}, {"PID[2]-1", "", "", false}, {"OBX[3]-1", "", "", false}, {"OBX[128]-64[32].32.16", "", "", false},
		{"MSH-1", "|", "|", true}, {"MSH-2", "^~\\&", "^~\\&", true}, {"MSH-3", "LAB", "LAB", true}, {"MSH-4", "a&b", "a\\T\\b", true}, {"MSH-5", "", "", true}, {"MSH-66", "", "", true},
		{"OBX-1", "x", "x", true}, {"OBX[2]-1", "y", "y", true}, {"OBX[2]-1.2", "", "\\H\\", true}, {"OBX[2]-1.3", "\n\n\n", "\\.sp2\\", true}, {"OBX[2]-2", "\r", "\\X0D\\", true},
		{"Z01-1", "", "", true}, {"Z01-64[32].32.16", "", "", true}, {"PID-3[3]", "", "", true}, {"PID-3[2].2", "", "", true}, {"PID-3.4.3", "", "", true},
	} {
		p, err := Parse(c.place)
		if err != nil {
			t.Fatal(err)
		}
		if text, ok, err := Get(m, p); text != c.plain || ok != c.ok || err != nil {
			t.Errorf("P703: Get(%s): %q, %v, %v", c.place, text, ok, err)
		}
		if wire, ok, err := Wire(m, p); wire != c.wire || ok != c.ok || err != nil {
			t.Errorf("P703: Wire(%s): %q, %v, %v", c.place, wire, ok, err)
		}
		reads(t, m, tableOf(m), p)
	}
}

// TestP703Heads: of FHS and BHS in a message field 1 is the first of the list, as of any other segment but MSH.
func TestP703Heads(t *testing.T) {
	m := mustParse(t, "MSH|^~\\&|LAB\rFHS|f1|f2|f3\rBHS|b1\r")
	for place, want := range map[string]string{"FHS-1": "f1", "FHS-2": "f2", "FHS-3": "f3", "BHS-1": "b1", "BHS-2": "", "MSH-3": "LAB"} {
		p, _ := Parse(place)
		if text, ok, err := Get(m, p); text != want || !ok || err != nil {
			t.Errorf("P703: Get(%s): %q, %v, %v", place, text, ok, err)
		}
	}
	n, err := Set(m, at("FHS", 1, 1), "|")
	if b, _ := tree.Print(n); err != nil || string(b) != "MSH|^~\\&|LAB\rFHS|\\F\\|f2|f3\rBHS|b1\r" {
		t.Errorf("P704: Set(FHS-1): %q, %v", b, err)
	}
}

func TestP703Around(t *testing.T) {
	r := dice(703)
	all := around()
	for range 12 {
		m := randomMessage(r)
		want := tableOf(m)
		for _, p := range all {
			reads(t, m, want, p)
		}
		for _, s := range want.spots() {
			reads(t, m, want, want.placeOf(s))
		}
	}
	for range 20000 {
		m := randomMessage(r)
		reads(t, m, tableOf(m), randomPlace(r, m))
	}
}

// TestP703Long: a message that Print refuses as too long is one that Valid takes.
func TestP703Long(t *testing.T) {
	m := longMessage()
	for _, p := range []api.Place{at("PID", 1, 1), at("PID", 1, 2), at("PID", 1, 3), at("MSH", 1, 3), at("OBX")} {
		reads(t, m, tableOf(m), p)
	}
}

// longMessage has PID-1 and PID-2 of 8000 bytes each.
func longMessage() api.Message {
	field := func(text string) api.Field {
		return api.Field{Reps: []api.Rep{{Comps: []api.Comp{{Subs: []string{text}}}}}}
	}
	return api.Message{Marks: common, Segs: []api.Seg{{Name: "MSH"}, {Name: "PID", Fields: []api.Field{field(strings.Repeat("a", 8000)), field(strings.Repeat("b", 8000))}}}}
}

func wrongPlaces() []api.Place {
	var all []api.Place
	for _, seg := range []string{"PID", "MSH", "NK1"} {
		for i, most := range []int{128, 66, 32, 32, 16} {
			for _, n := range []int{-1, 0, most + 1, 1 << 40} {
				p := at(seg, 1, 3)
				*[]*int{&p.Occur, &p.Field, &p.Rep, &p.Comp, &p.Sub}[i] = n
				all = append(all, p)
			}
		}
	}
	return append(all, api.Place{}, at("PID", 1, 65), at("MSH", 2, 3), at("MSH", 2, 1), at("MSH", 1, 1, 2), at("MSH", 1, 1, 1, 2), at("MSH", 1, 1, 1, 1, 2),
		at("MSH", 1, 2, 2), at("MSH", 1, 2, 1, 2), at("MSH", 1, 2, 1, 1, 2), at("pid"), at(""), at("PIDX"))
}

// nothing is an error's company: every other result is zero.
func nothing(t *testing.T, what string, zero bool) {
	t.Helper()
	if !zero {
		t.Fatalf("%s: an answer beside the error", what)
	}
}

func zero(m api.Message) bool { return m.Marks == api.Marks{} && m.Segs == nil }

func TestP703Refuses(t *testing.T) {
	good := mustParse(t, small)
	for _, m := range append(wrongMessages(), good) {
		for _, p := range wrongPlaces() {
			text, ok, err := Get(m, p)
			refused(t, fmt.Sprintf("P703: Get at %v", p), err, 0, api.ErrPlace, nil)
			nothing(t, "P703: Get", text == "" && !ok)
			text, ok, err = Wire(m, p)
			refused(t, fmt.Sprintf("P703: Wire at %v", p), err, 0, api.ErrPlace, nil)
			nothing(t, "P703: Wire", text == "" && !ok)
		}
	}
	for _, m := range wrongMessages() {
		_, below := tree.Valid(m)
		if below == nil {
			t.Fatalf("%v is a message", m)
		}
		for _, p := range []api.Place{at("PID"), at("MSH"), at("MSH", 1, 2), at("MSH", 1, 3), at("NK1"), at("PID", 128, 64, 32, 32, 16)} {
			text, ok, err := Get(m, p)
			refused(t, fmt.Sprintf("P703: Get of %v", m), err, 0, api.ErrForm, below)
			nothing(t, "P703: Get", text == "" && !ok)
			text, ok, err = Wire(m, p)
			refused(t, fmt.Sprintf("P703: Wire of %v", m), err, 0, api.ErrForm, below)
			nothing(t, "P703: Wire", text == "" && !ok)
		}
	}
}

func TestP704Plain(t *testing.T) {
	m := mustParse(t, small)
	for _, c := range []struct{ place, text, want string }{
		{"PID-3[2]", "", "MSH|^~\\&|LAB\rPID|1||77^^^A&1\r"},
		{"PID-5", "a^b", "MSH|^~\\&|LAB\rPID|1||77^^^A&1~88||a\\S\\b\r"},
		{"PID-2", "x", "MSH|^~\\&|LAB\rPID|1|x|77^^^A&1~88\r"},
		{"PID-3", "", "MSH|^~\\&|LAB\rPID|1||^^^A&1~88\r"},
		{"PID-3.4.2", "", "MSH|^~\\&|LAB\rPID|1||77^^^A~88\r"},
		{"PID-3.4.1", "", "MSH|^~\\&|LAB\rPID|1||77^^^&1~88\r"},
		{"PID-3[2].2.3", "|", "MSH|^~\\&|LAB\rPID|1||77^^^A&1~88^&&\\F\\\r"},
		{"PID-3[4]", "|^~\\&\r", "MSH|^~\\&|LAB\rPID|1||77^^^A&1~88~~\\F\\\\S\\\\R\\\\E\\\\T\\\\X0D\\\r"},
		{"PID-1.2", "\"\"", "MSH|^~\\&|LAB\rPID|1^\"\"||77^^^A&1~88\r"},
		{"PID-64", "", "MSH|^~\\&|LAB\rPID|1||77^^^A&1~88\r"},
		{"MSH-3", "", "MSH|^~\\&\rPID|1||77^^^A&1~88\r"},
		{"MSH-4", "x", "MSH|^~\\&|LAB|x\rPID|1||77^^^A&1~88\r"},
		{"MSH-3.1.2", "x", "MSH|^~\\&|LAB&x\rPID|1||77^^^A&1~88\r"},
	} {
		p, err := Parse(c.place)
		if err != nil {
			t.Fatal(err)
		}
		n, err := Set(m, p, c.text)
		b, err2 := tree.Print(n)
		if err != nil || err2 != nil || string(b) != c.want {
			t.Errorf("P704: Set(%s, %q): %q, %v, %v", c.place, c.text, b, err, err2)
		}
		if shape(n) != shape(tree.Normal(n)) {
			t.Errorf("P704: Set(%s, %q): not normal: %s", c.place, c.text, shape(n))
		}
	}
}

// TestP704Far: places behind the end of a list at every depth, up to the bounds.
func TestP704Far(t *testing.T) {
	for _, text := range []string{"MSH|^~\\&\rPID\rPID", small + "PID|a\r", "MSH|^~\\&|a~b~c\rPID|&&x\rPID||~~y^z"} {
		m := mustParse(t, text)
		for _, p := range []api.Place{
			at("PID", 1, 64), at("PID", 2, 64), at("MSH", 1, 66), at("PID", 1, 1, 32), at("PID", 2, 2, 32), at("PID", 1, 3, 1, 32), at("PID", 1, 3, 1, 1, 16),
			at("PID", 1, 64, 32, 32, 16), at("MSH", 1, 66, 32, 32, 16), at("MSH", 1, 3, 32, 32, 16), at("PID", 2, 5, 5, 5, 5), at("MSH", 1, 3, 2, 2, 2),
		} {
			for _, x := range []string{"q", "", "\\", "q|\x00"} {
				sets(t, m, p, x)
			}
		}
	}
}

// sets holds Set against a table, where it must be taken.
func sets(t *testing.T, m api.Message, p api.Place, x string) api.Message {
	t.Helper()
	want := tableOf(m)
	s, ok := want.spotOf(p)
	wire, err := esc.Escape(m.Marks, x)
	if !ok || err != nil {
		t.Fatalf("no place for a Set: %v, %v", p, err)
	}
	want.put(s, wire)
	n, err := Set(m, p, x)
	if err != nil {
		t.Fatalf("P704: Set(%v, %q): %v", p, x, err)
	}
	is(t, fmt.Sprintf("P704: Set(%v, %q)", p, x), n, want)
	if text, ok, err := Get(n, p); text != x || !ok || err != nil {
		t.Fatalf("P709: Set(%v, %q), then Get: %q, %v, %v", p, x, text, ok, err)
	}
	return n
}

var plains = []string{"", "a", "b c", "|", "^~\\&", "#$%!?", ".", "\r\n", "\x00\x0b\x1c\x7f", "M\xc3\xbcller", "\xff\xfe", "\\F\\", "\"\"", strings.Repeat("\x01", 65), "[].-"}

func TestP704Random(t *testing.T) {
	r := dice(704)
	for range 20000 {
		m := randomMessage(r)
		p := randomPlace(r, m)
		if _, ok := tableOf(m).spotOf(p); !ok || fixed(p) {
			continue
		}
		sets(t, m, p, pick(r, plains))
	}
}

// TestP709Others: behind a Set every other place tells what it told.
func TestP709Others(t *testing.T) {
	r := dice(709)
	all := around()
	for range 12 {
		m := randomMessage(r)
		p := randomPlace(r, m)
		if _, ok := tableOf(m).spotOf(p); !ok || fixed(p) {
			continue
		}
		n, err := Set(m, p, pick(r, plains))
		if err != nil {
			t.Fatal(err)
		}
		for _, q := range all {
			if q == p {
				continue
			}
			a, ok, err := Get(m, q)
			b, ok2, err2 := Get(n, q)
			c, ok3, err3 := Wire(m, q)
			d, ok4, err4 := Wire(n, q)
			if a != b || c != d || ok != ok2 || ok3 != ok4 || err != nil || err2 != nil || err3 != nil || err4 != nil {
				t.Fatalf("P709: a Set at %v changed %v: %q, %q; %q, %q", p, q, a, b, c, d)
			}
		}
	}
}

// TestP709EveryPlace: all sets of a small message, all places near them.
func TestP709EveryPlace(t *testing.T) {
	m := mustParse(t, "MSH|^~\\&|a&b^c~d\rPID|e|~f^&g\rPID|h")
	var all []api.Place
	for _, seg := range []api.Place{at("MSH"), at("PID"), at("PID", 2), at("PID", 3)} {
		for f := range 4 {
			for r := range 2 {
				for c := range 2 {
					for u := range 2 {
						p := at(seg.Seg, seg.Occur, f+1, r+1, c+1, u+1)
						if modelRight(p) {
							all = append(all, p)
						}
					}
				}
			}
		}
	}
	for _, p := range all {
		for _, x := range []string{"", "new|"} {
			n, err := Set(m, p, x)
			if p.Seg == "MSH" && p.Field < 3 {
				refused(t, "P704: fixed", err, 0, api.ErrFixed, nil)
				continue
			}
			if p.Occur == 3 {
				refused(t, "P704: not there", err, 0, api.ErrUnknown, nil)
				continue
			}
			for _, q := range all {
				text, ok, err := Get(n, q)
				want, wantOK := tableOf(m).plain(q)
				if q == p {
					want, wantOK = x, true
				}
				if text != want || ok != wantOK || err != nil {
					t.Fatalf("P709: Set(%v, %q), Get(%v): %q, %v, %v, want %q", p, x, q, text, ok, err, want)
				}
			}
		}
	}
}

func TestP704Refuses(t *testing.T) {
	good := mustParse(t, small)
	wrong := wrongMessages()[14] // a sub that is no wire text
	_, formBelow := tree.Valid(wrong)
	long := strings.Repeat("x", 8193)
	longBelow := &api.Fault{Layer: "esc", Code: api.ErrLong}
	for _, c := range []struct {
		p    api.Place
		code api.Errno // of the place alone, in the good message
	}{
		{at("PID", 1, 65), api.ErrPlace}, {at("PID", 0), api.ErrPlace}, {at("MSH", 1, 1, 2), api.ErrPlace}, {at("MSH", 2, 2), api.ErrPlace}, {at("NK1", 1, 1, 33), api.ErrPlace}, {at("MSH", 1, 0), api.ErrPlace},
		{at("MSH", 1, 1), api.ErrFixed}, {at("MSH", 1, 2), api.ErrFixed},
		{at("NK1"), api.ErrUnknown}, {at("PID", 2), api.ErrUnknown}, {at("PID", 128, 64, 32, 32, 16), api.ErrUnknown},
		{at("PID"), api.OK}, {at("MSH", 1, 3), api.OK},
	} {
		for _, text := range []string{"", "x", long} {
			n, err := Set(wrong, c.p, text)
			what := fmt.Sprintf("P704: Set(%v, %d bytes)", c.p, len(text))
			if c.code == api.ErrPlace {
				refused(t, what, err, 0, api.ErrPlace, nil)
			} else {
				refused(t, what, err, 0, api.ErrForm, formBelow)
			}
			nothing(t, what, zero(n))
			n, err = Set(good, c.p, text)
			switch {
			case c.code != api.OK:
				refused(t, what, err, 0, c.code, nil)
				nothing(t, what, zero(n))
			case text == long:
				refused(t, what, err, 0, api.ErrLong, longBelow)
				nothing(t, what, zero(n))
			case err != nil:
				t.Errorf("%s: %v", what, err)
			}
		}
	}
	for _, m := range wrongMessages() {
		_, below := tree.Valid(m)
		n, err := Set(m, at("PID"), "")
		refused(t, "P704: no message", err, 0, api.ErrForm, below)
		nothing(t, "P704: no message", zero(n))
	}
	for _, p := range wrongPlaces() {
		_, err := Set(good, p, "x")
		refused(t, fmt.Sprintf("P704: %v", p), err, 0, api.ErrPlace, nil)
	}
}

// TestP704Bounds: texts at the bounds of layers 5 and 6.
func TestP704Bounds(t *testing.T) {
	m := mustParse(t, "MSH|^~\\&\rPID\r") // 13 bytes
	byEsc := &api.Fault{Layer: "esc", Code: api.ErrLong}
	byTree := &api.Fault{Layer: "tree", Code: api.ErrLong}
	room := api.MaxMessage - 13 - 1
	for _, c := range []struct {
		what  string
		p     api.Place
		text  string
		below error
	}{
		{"a text that fills the message", at("PID"), strings.Repeat("x", room), nil},
		{"one byte more", at("PID"), strings.Repeat("x", room+1), byTree},
		{"one field further", at("PID", 1, 2), strings.Repeat("x", room-1), nil},
		{"one field further, one byte more", at("PID", 1, 2), strings.Repeat("x", room), byTree},
		{"the longest text of layer 5", at("PID"), strings.Repeat("x", 8192), byTree},
		{"one byte more than that", at("PID"), strings.Repeat("x", 8193), byEsc},
		{"marks, the longest wire text", at("PID"), strings.Repeat("|", 2730), byTree},
		{"marks, a longer one", at("PID"), strings.Repeat("|", 2731), byEsc},
		{"marks that fit", at("PID"), strings.Repeat("&", room/3), nil},
		{"marks, one more", at("PID"), strings.Repeat("&", room/3+1), byTree},
		{"very long", at("PID"), strings.Repeat("\x00", 100000), byEsc},
		{"all lists grown", at("PID", 1, 64, 32, 32, 16), strings.Repeat("x", room-63-31-31-15), nil},
		{"all lists grown, one byte more", at("PID", 1, 64, 32, 32, 16), strings.Repeat("x", room-63-31-31-15+1), byTree},
		{"MSH grown", at("MSH", 1, 66, 32, 32, 16), strings.Repeat("x", room-63-31-31-15), nil},
		{"MSH grown, one byte more", at("MSH", 1, 66, 32, 32, 16), strings.Repeat("x", room-63-31-31-15+1), byTree},
	} {
		n, err := Set(m, c.p, c.text)
		if c.below != nil {
			refused(t, "P704: "+c.what, err, 0, api.ErrLong, c.below)
			nothing(t, "P704: "+c.what, zero(n))
			continue
		}
		if err != nil {
			t.Fatalf("P704: %s: %v", c.what, err)
		}
		if text, _, _ := Get(n, c.p); text != c.text {
			t.Fatalf("P704: %s: Get tells %d bytes", c.what, len(text))
		}
	}
}

// TestP704TooLong: the message as it would be is judged, not the one that was.
func TestP704TooLong(t *testing.T) {
	m := longMessage()
	byTree := &api.Fault{Layer: "tree", Code: api.ErrLong}
	for _, p := range []api.Place{at("MSH", 1, 3), at("PID", 1, 3), at("PID", 1, 1, 2)} {
		_, err := Set(m, p, "")
		refused(t, "P704: too long as it was", err, 0, api.ErrLong, byTree)
	}
	for _, text := range []string{"", "x", strings.Repeat("x", 8192-13-2-8000)} {
		sets(t, m, at("PID", 1, 1), text)
	}
	_, err := Set(m, at("PID", 1, 1), strings.Repeat("x", 8192-13-2-8000+1))
	refused(t, "P704: still too long", err, 0, api.ErrLong, byTree)
}

func TestP710EitherOrder(t *testing.T) {
	r := dice(710)
	done := 0
	for done < 8000 {
		m := randomMessage(r)
		p, q := randomPlace(r, m), randomPlace(r, m)
		x, y := pick(r, plains), pick(r, plains)
		if r.IntN(2) == 0 { // neighbours
			q = p
			*pick(r, []*int{&q.Field, &q.Rep, &q.Comp, &q.Sub}) = 1 + r.IntN(4)
		}
		if p == q || !modelRight(q) {
			continue
		}
		a, err1 := Set(m, p, x)
		ab, err2 := Set(a, q, y)
		b, err3 := Set(m, q, y)
		ba, err4 := Set(b, p, x)
		if err1 != nil || err2 != nil || err3 != nil || err4 != nil {
			continue
		}
		if shape(ab) != shape(ba) {
			t.Fatalf("P710: %v and %v:\n%s\n%s", p, q, shape(ab), shape(ba))
		}
		done++
	}
}

func TestP705Plain(t *testing.T) {
	m := mustParse(t, "MSH|^~\\&|LAB~x\rPID|1||77^^^A&1~88|\rPID|~~~a|b&c^d\rZ01")
	for place, want := range map[string]int{
		"PID-3": 2, "PID-4": 0, "PID-1": 1, "PID-2": 0, "PID-64": 0, "PID[2]-1": 4, "PID[2]-2": 1, "PID[2]-3": 0, "PID[3]-1": 0,
		"NK1-1": 0, "MSH-1": 1, "MSH-2": 1, "MSH-3": 2, "MSH-4": 0, "MSH-66": 0, "Z01-1": 0, "Z01[2]-1": 0,
	} {
		p, err := Parse(place)
		if err != nil {
			t.Fatal(err)
		}
		if n, err := Count(m, p); n != want || err != nil {
			t.Errorf("P705: Count(%s): %d, %v, want %d", place, n, err, want)
		}
	}
}

// TestP705NotNormal: empty ends do not count, whatever they are made of.
func TestP705NotNormal(t *testing.T) {
	empties := []api.Rep{{}, {Comps: []api.Comp{}}, {Comps: []api.Comp{{}, {Subs: []string{}}}}, {Comps: []api.Comp{{Subs: []string{"", ""}}}}}
	full := api.Rep{Comps: []api.Comp{{}, {Subs: []string{"", "\\H\\"}}}}
	for n := range 5 {
		for behind := range 5 {
			reps := append(slices.Clone(empties[:min(n, 4)]), full)
			reps = append(reps, empties[:min(behind, 4)]...)
			m := api.Message{Marks: common, Segs: []api.Seg{{Name: "MSH", Fields: []api.Field{{Reps: empties}, {Reps: reps}}}, {Name: "PID", Fields: []api.Field{{Reps: reps}, {Reps: empties}, {}}}}}
			for p, want := range map[api.Place]int{at("PID"): n + 1, at("PID", 1, 2): 0, at("PID", 1, 3): 0, at("PID", 1, 4): 0, at("MSH", 1, 3): 0, at("MSH", 1, 4): n + 1} {
				if got, err := Count(m, p); got != want || err != nil {
					t.Errorf("P705: Count(%v): %d, %v, want %d", p, got, err, want)
				}
			}
		}
	}
	full32 := mustParse(t, "MSH|^~\\&\rPID|"+strings.Repeat("~", 31)+"x")
	if n, err := Count(full32, at("PID")); n != 32 || err != nil {
		t.Errorf("P705: %d, %v", n, err)
	}
}

func TestP705Refuses(t *testing.T) {
	good := mustParse(t, small)
	for _, n := range []int{-1 << 40, -1, 0, 1, 2, 33, 1 << 40} {
		for i := range 3 {
			for seg, want := range map[api.Place]int{at("PID", 1, 3): 2, at("MSH", 1, 1): 1, at("MSH", 1, 2): 1, at("MSH", 1, 3): 1, at("NK1"): 0} {
				p := seg
				*[]*int{&p.Rep, &p.Comp, &p.Sub}[i] = n
				if got, err := Count(good, p); got != want || err != nil {
					t.Errorf("P705: Count(%v): %d, %v: Rep, Comp and Sub do not matter", p, got, err)
				}
				p.Rep, p.Comp, p.Sub = n, n, n
				if got, err := Count(good, p); got != want || err != nil {
					t.Errorf("P705: Count(%v): %d, %v: Rep, Comp and Sub do not matter", p, got, err)
				}
			}
		}
	}
	for _, p := range []api.Place{{}, {Seg: "PID"}, at("PID", 0), at("PID", 129), at("PID", 1, 0), at("PID", 1, 65), at("MSH", 2), at("MSH", 1, 67), at("MSH", 1, 0), at("pid"), at("MSH", 2, 3)} {
		for _, m := range append(wrongMessages(), good) {
			n, err := Count(m, p)
			refused(t, fmt.Sprintf("P705: Count(%v)", p), err, 0, api.ErrPlace, nil)
			nothing(t, "P705", n == 0)
		}
	}
	for _, m := range wrongMessages() {
		_, below := tree.Valid(m)
		for _, p := range []api.Place{at("PID"), at("MSH"), at("NK1"), at("PID", 1, 1, 0, 0, 0)} {
			n, err := Count(m, p)
			refused(t, "P705: no message", err, 0, api.ErrForm, below)
			nothing(t, "P705", n == 0)
		}
	}
}

func TestP706Plain(t *testing.T) {
	m := mustParse(t, "MSH|^~\\&|LAB\rPID|1\rOBX|2\rPID|3\rOBX|4\rZ01\r")
	for _, c := range []struct {
		seg   string
		occur int
		want  string
	}{
		{"PID", 1, "MSH|^~\\&|LAB\rOBX|2\rPID|3\rOBX|4\rZ01\r"},
		{"PID", 2, "MSH|^~\\&|LAB\rPID|1\rOBX|2\rOBX|4\rZ01\r"},
		{"OBX", 2, "MSH|^~\\&|LAB\rPID|1\rOBX|2\rPID|3\rZ01\r"},
		{"Z01", 1, "MSH|^~\\&|LAB\rPID|1\rOBX|2\rPID|3\rOBX|4\r"},
	} {
		n, err := Remove(m, c.seg, c.occur)
		if b, err2 := tree.Print(n); err != nil || err2 != nil || string(b) != c.want {
			t.Errorf("P706: Remove(%s, %d): %q, %v, %v", c.seg, c.occur, b, err, err2)
		}
	}
}

func TestP706Random(t *testing.T) {
	r := dice(706)
	for range 5000 {
		m := randomMessage(r)
		want := tableOf(m)
		for _, seg := range append([]string{"NK1"}, names...) {
			for occur := 1; occur <= 4; occur++ {
				n, err := Remove(m, seg, occur)
				s, ok := want.spotOf(at(seg, occur))
				if !ok {
					refused(t, "P706: not there", err, 0, api.ErrUnknown, nil)
					nothing(t, "P706: not there", zero(n))
					continue
				}
				if err != nil {
					t.Fatalf("P706: Remove(%s, %d): %v", seg, occur, err)
				}
				is(t, fmt.Sprintf("P706: Remove(%s, %d)", seg, occur), n, want.without(s[0]))
			}
		}
	}
}

func TestP706Refuses(t *testing.T) {
	good := mustParse(t, small)
	for _, m := range append(wrongMessages(), good) {
		for _, seg := range []string{"", "P", "PIDX", "pid", "PI-", "msh", "1ID", "MSH-"} {
			for _, occur := range []int{1, 0, 2} {
				n, err := Remove(m, seg, occur)
				refused(t, "P706: "+seg, err, 0, api.ErrPlace, nil)
				nothing(t, "P706", zero(n))
			}
		}
		for _, seg := range []string{"PID", "MSH", "NK1"} {
			for _, occur := range []int{0, -1, 129, 1 << 40, -1 << 62} {
				n, err := Remove(m, seg, occur)
				refused(t, fmt.Sprintf("P706: %s %d", seg, occur), err, 0, api.ErrPlace, nil)
				nothing(t, "P706", zero(n))
			}
		}
	}
	for _, m := range wrongMessages() {
		_, below := tree.Valid(m)
		for _, seg := range []string{"PID", "MSH", "NK1"} {
			for _, occur := range []int{1, 2, 128} {
				n, err := Remove(m, seg, occur)
				refused(t, "P706: no message", err, 0, api.ErrForm, below)
				nothing(t, "P706", zero(n))
			}
		}
	}
	for _, occur := range []int{1, 2, 64, 128} {
		n, err := Remove(good, "MSH", occur)
		refused(t, "P706: MSH stays, whichever is asked for", err, 0, api.ErrFixed, nil)
		nothing(t, "P706", zero(n))
	}
	for _, occur := range []int{2, 3, 128} {
		_, err := Remove(good, "PID", occur)
		refused(t, "P706: no such segment", err, 0, api.ErrUnknown, nil)
	}
}

// TestP706Bounds: the last of as many segments as may be; a message that is too long, before and behind.
func TestP706Bounds(t *testing.T) {
	m := mustParse(t, "MSH|^~\\&\r"+strings.Repeat("PID|1\r", 127))
	for _, occur := range []int{1, 64, 127} {
		n, err := Remove(m, "PID", occur)
		if err != nil || len(n.Segs) != 127 {
			t.Errorf("P706: %d, %v", len(n.Segs), err)
		}
	}
	if text, ok, err := Get(m, at("PID", 127)); text != "1" || !ok || err != nil {
		t.Errorf("P703: %q, %v, %v", text, ok, err)
	}
	if _, ok, err := Get(m, at("PID", 128)); ok || err != nil {
		t.Errorf("P703: %v, %v", ok, err)
	}
	long := longMessage()
	long.Segs = append(long.Segs, api.Seg{Name: "OBX", Fields: make([]api.Field, 3)})
	if n, err := Remove(long, "OBX", 1); err != nil || !tree.Equal(n, longMessage()) {
		t.Errorf("P706: too long before and behind: %v", err)
	}
	if n, err := Remove(long, "PID", 1); err != nil || len(n.Segs) != 2 || len(n.Segs[1].Fields) != 0 {
		t.Errorf("P706: too long before: %v, %s", err, shape(n))
	}
}
