package tree

import (
	"fmt"
	"iter"
	"slices"
	"strings"
	"testing"

	"courier/api"
	"courier/esc"
)

func one(sub string) api.Field {
	return api.Field{Reps: []api.Rep{{Comps: []api.Comp{{Subs: []string{sub}}}}}}
}

// with is a message of an MSH and a PID of these fields.
func with(fields ...api.Field) api.Message {
	return api.Message{Marks: common, Segs: []api.Seg{{Name: "MSH"}, {Name: "PID", Fields: fields}}}
}

func field(reps ...api.Rep) api.Field { return api.Field{Reps: reps} }

func rep(comps ...api.Comp) api.Rep { return api.Rep{Comps: comps} }

func comp(subs ...string) api.Comp { return api.Comp{Subs: subs} }

// wrong holds Valid, and Print and Turn with it, against the place of a fault.
func wrong(t *testing.T, what string, m api.Message, want ...int) {
	t.Helper()
	at, err := Valid(m)
	refused(t, "P604: "+what, err, api.ErrForm, 0, nil)
	if !slices.Equal(at, want) {
		t.Errorf("P604: %s: %v, want %v", what, at, want)
	}
	text, err := Print(m)
	refused(t, "P603: "+what, err, api.ErrForm, 0, nil)
	turned, err := Turn(m, other)
	refused(t, "P607: "+what, err, api.ErrForm, 0, nil)
	if text != nil || turned.Segs != nil || turned.Marks != (api.Marks{}) {
		t.Errorf("P603, P607: %s: %q, %s beside an error", what, text, shape(turned))
	}
}

func right(t *testing.T, what string, m api.Message) {
	t.Helper()
	if at, err := Valid(m); err != nil || at != nil {
		t.Errorf("P604: %s: %v, %v", what, at, err)
	}
}

func TestP604Marks(t *testing.T) {
	for _, k := range []api.Marks{{}, marksOf("||~\\&"), marksOf("A^~\\&"), marksOf("|^~\\|"), marksOf("|^~\\\x80"), marksOf("\r^~\\&")} {
		for _, segs := range [][]api.Seg{nil, {}, {{Name: "MSH"}}, {{Name: "x"}}, make([]api.Seg, 200)} {
			wrong(t, fmt.Sprintf("marks %q", fiveOf(k)), api.Message{Marks: k, Segs: segs})
		}
	}
	wrong(t, "no segment", api.Message{Marks: common})
	wrong(t, "an empty list of segments", api.Message{Marks: common, Segs: []api.Seg{}})
	wrong(t, "nothing", api.Message{})
	for _, five := range fives {
		right(t, five, api.Message{Marks: marksOf(five), Segs: []api.Seg{{Name: "MSH"}}})
	}
}

func TestP604Names(t *testing.T) {
	for _, name := range []string{"AAA", "ZZZ", "A00", "Z99", "PID", "A0Z", "AZ9", "FHS", "BHS", "MSA", "MSG", "MSI", "MRH", "LSH", "NSH"} {
		right(t, name, api.Message{Marks: common, Segs: []api.Seg{{Name: "MSH"}, {Name: name}}})
		wrong(t, name+" first", api.Message{Marks: common, Segs: []api.Seg{{Name: name}}}, 0)
	}
	for _, name := range []string{"", "P", "PI", "PIDX", "pid", "PId", "PiD", "1ID", "P|D", "PI\r", "P D", "@AA", "[AA", "A/A", "A:A", "A@A", "AA[", "\xc3\x84A", "MSH", "msh", "MSHX", "MS"} {
		m := api.Message{Marks: common, Segs: []api.Seg{{Name: "MSH"}, {Name: "PID"}, {Name: name, Fields: make([]api.Field, 65)}, {Name: ""}}}
		wrong(t, fmt.Sprintf("the name %q", name), m, 2)
		if name != "MSH" {
			wrong(t, fmt.Sprintf("the first name %q", name), api.Message{Marks: common, Segs: []api.Seg{{Name: name, Fields: make([]api.Field, 65)}, {Name: "x"}}}, 0)
		}
	}
}

func TestP604Lengths(t *testing.T) {
	many := func(n int) []api.Seg {
		segs := []api.Seg{{Name: "MSH"}}
		for len(segs) < n {
			segs = append(segs, api.Seg{Name: "PID"})
		}
		return segs
	}
	right(t, "as many segments as may be", api.Message{Marks: common, Segs: many(128)})
	wrong(t, "one segment too many", api.Message{Marks: common, Segs: many(129)}, 128)
	wrong(t, "many segments, all wrong", api.Message{Marks: common, Segs: make([]api.Seg, 1<<20)}, 128)
	bad := "\t"
	for _, x := range []struct {
		what string
		make func(n int) api.Message
		most int
		at   []int
	}{
		{"fields", func(n int) api.Message { return with(make([]api.Field, n)...) }, 64, []int{1}},
		{"reps", func(n int) api.Message { return with(one("a"), field(make([]api.Rep, n)...)) }, 32, []int{1, 1}},
		{"comps", func(n int) api.Message { return with(field(rep(), rep(make([]api.Comp, n)...))) }, 32, []int{1, 0, 1}},
		{"subs", func(n int) api.Message { return with(field(rep(comp(), comp(), comp(make([]string, n)...)))) }, 16, []int{1, 0, 0, 2}},
	} {
		right(t, x.what+" at the bound", x.make(x.most))
		right(t, x.what+" below it", x.make(x.most-1))
		for _, n := range []int{x.most + 1, x.most + 2, 1 << 16} {
			wrong(t, fmt.Sprintf("%d %s", n, x.what), x.make(n), append(slices.Clone(x.at), x.most)...)
		}
	}
	// Lengths come ahead of elements, at each level.
	wrong(t, "65 fields, the first wrong", with(append([]api.Field{one(bad)}, make([]api.Field, 64)...)...), 1, 64)
	wrong(t, "33 reps, the first wrong", with(field(append([]api.Rep{rep(comp(bad))}, make([]api.Rep, 32)...)...)), 1, 0, 32)
	wrong(t, "33 comps, the first wrong", with(field(rep(append([]api.Comp{comp(bad)}, make([]api.Comp, 32)...)...))), 1, 0, 0, 32)
	wrong(t, "17 subs, the first wrong", with(field(rep(comp(append([]string{bad}, make([]string, 16)...)...)))), 1, 0, 0, 0, 16)
	wrong(t, "a wrong sub ahead of too many reps", with(one(bad), field(make([]api.Rep, 33)...)), 1, 0, 0, 0, 0)
	wrong(t, "too many reps ahead of a wrong sub", with(field(make([]api.Rep, 33)...), one(bad)), 1, 0, 32)
	m := with(one(bad))
	m.Segs = append(m.Segs, api.Seg{Name: "x"})
	wrong(t, "a wrong sub ahead of a wrong name", m, 1, 0, 0, 0, 0)
}

func TestP604Subs(t *testing.T) {
	for _, sub := range []string{"a|b", "|", "^", "~", "&", "\\", "a\\", "\\Q\\", "\\F", "\r", "a\r", "\n", "\ta", "a\t", "\x0b", "\x1c", "\x7f", "\x00", strings.Repeat("x", 8193), "\\X0\\", "\\.br"} {
		for _, at := range [][]int{{0, 0, 0, 0, 0}, {1, 2, 0, 0, 0}, {1, 0, 3, 0, 0}, {0, 1, 1, 2, 0}, {1, 63, 31, 31, 15}, {127, 5, 4, 3, 2}} {
			m := api.Message{Marks: common}
			for i := range at[0] + 1 {
				m.Segs = append(m.Segs, api.Seg{Name: "PID"})
				m.Segs[i].Fields = make([]api.Field, 64)
			}
			m.Segs[0].Name = "MSH"
			f := &m.Segs[at[0]].Fields[at[1]]
			f.Reps = make([]api.Rep, at[2]+1)
			f.Reps[at[2]].Comps = make([]api.Comp, at[3]+1)
			f.Reps[at[2]].Comps[at[3]].Subs = make([]string, at[4]+1)
			right(t, "empty subs", m)
			f.Reps[at[2]].Comps[at[3]].Subs[at[4]] = sub
			wrong(t, fmt.Sprintf("the sub %.10q", sub), m, at...)
		}
	}
	for _, sub := range []string{"", "a", "\"\"", "\\F\\", "\\.sp3\\", "\x80\xff", "#$%!?", " ", "\\X0D\\", strings.Repeat("x", 8192)} {
		right(t, fmt.Sprintf("the sub %.10q", sub), with(one(sub)))
	}
	m := with(one("#"))
	m.Marks = other
	wrong(t, "a mark of other Marks", m, 1, 0, 0, 0, 0)
	m.Segs[1].Fields[0] = one("|^~\\&")
	right(t, "what is a mark elsewhere", m)
}

func TestP604RandomTrees(t *testing.T) {
	r := dice(3)
	found := 0
	for range 20000 {
		m := someTree(r, marksOf(pick(r, fives)), r.IntN(5))
		want, bad := modelValid(m)
		at, err := Valid(m)
		if bad != (err != nil) || !slices.Equal(at, want) {
			t.Fatalf("P604: Valid of %s: %v, %v, want %v, %v", shape(m), at, err, want, bad)
		}
		if bad {
			found++
			wrong(t, "a tree", m, want...)
		}
	}
	if found < 1000 || found > 19000 {
		t.Errorf("%d of the trees are wrong", found)
	}
}

func TestP603Print(t *testing.T) {
	for want, m := range map[string]api.Message{
		head + "\r":                   {Marks: common, Segs: []api.Seg{{Name: "MSH"}}},
		head + "\rPID\r":              with(),
		head + "\rPID|\"\"\r":         with(one("\"\"")),
		head + "\rPID|x^y&z~w||^&1\r": with(field(rep(comp("x"), comp("y", "z", "")), rep(comp("w"), comp())), api.Field{}, field(rep(comp(), comp("", "1")), rep())),
		"MSH#$%!?#|^~\\&\r":           {Marks: other, Segs: []api.Seg{{Name: "MSH", Fields: []api.Field{one("|^~\\&")}}}},
	} {
		b, err := Print(m)
		if err != nil || string(b) != want {
			t.Errorf("P603: %q, %v, want %q", b, err, want)
		}
	}
	// Fields that say nothing, at every bound at once.
	full := with(make([]api.Field, 64)...)
	for i := range full.Segs[1].Fields {
		f := &full.Segs[1].Fields[i]
		f.Reps = make([]api.Rep, 32)
		for j := range f.Reps {
			f.Reps[j].Comps = make([]api.Comp, 32)
			for k := range f.Reps[j].Comps {
				f.Reps[j].Comps[k].Subs = make([]string, 16)
			}
		}
	}
	if b, err := Print(full); err != nil || string(b) != head+"\rPID\r" {
		t.Errorf("P603: empty lists at their bounds: %q, %v", b, err)
	}
	full.Segs[1].Fields[63].Reps[31].Comps[31].Subs[15] = "x"
	want := head + "\rPID" + strings.Repeat("|", 64) + strings.Repeat("~", 31) + strings.Repeat("^", 31) + strings.Repeat("&", 15) + "x\r"
	if b, err := Print(full); err != nil || string(b) != want {
		t.Errorf("P603: the last sub alone: %q, %v", b, err)
	}
}

func TestP603Bound(t *testing.T) {
	for _, n := range []int{8190, 8191, 8192, 8193, 8194, 16384} {
		// "MSH|^~\&" CR "PID|" and "|" between two, "~", CR: 16 bytes beside the subs.
		half := (n - 16) / 2
		m := with(field(rep(comp(strings.Repeat("a", half))), rep(comp(strings.Repeat("b", n-16-half-1)))), one("c"), api.Field{}, field(rep(comp("", ""))))
		b, err := Print(m)
		if n > api.MaxMessage {
			refused(t, fmt.Sprintf("P603: %d bytes", n), err, api.ErrLong, 0, nil)
			if b != nil {
				t.Errorf("P603: %d bytes beside an error", len(b))
			}
			continue
		}
		if err != nil || len(b) != n || string(b) != modelText(Normal(m)) {
			t.Errorf("P603: %d bytes: %d, %v", n, len(b), err)
		}
	}
	m := with(one(strings.Repeat("x", 8193)))
	_, err := Print(m)
	refused(t, "P603: a sub that is none, too long as well", err, api.ErrForm, 0, nil)
	sub := strings.Repeat("x", 8192)
	var all []api.Field
	for range 64 {
		all = append(all, field(rep(comp(sub, sub), comp(sub)), rep(comp(sub))))
	}
	_, err = Print(with(all...))
	refused(t, "P603: much too long", err, api.ErrLong, 0, nil)
	_, err = Print(with(append(slices.Clone(all[:63]), one("\t"))...))
	refused(t, "P603: much too long, and wrong at the end", err, api.ErrForm, 0, nil)
	segs := api.Message{Marks: common, Segs: []api.Seg{{Name: "MSH"}}}
	for range 127 {
		segs.Segs = append(segs.Segs, api.Seg{Name: "PID", Fields: append(make([]api.Field, 63), one("x"))})
	}
	_, err = Print(segs)
	refused(t, "P603: too long by its marks", err, api.ErrLong, 0, nil)
	segs.Segs = segs.Segs[:120] // 9 bytes, and 119 times 69
	b, err := Print(segs)
	if 9+119*69 != 8220 {
		t.Fatal("the test counts wrong")
	}
	refused(t, "P603: 8220 bytes", err, api.ErrLong, 0, nil)
	segs.Segs = segs.Segs[:119]
	if b, err = Print(segs); err != nil || len(b) != 9+118*69 {
		t.Errorf("P603: %d bytes, %v", len(b), err)
	}
}

// messages are some that aren't normal or can't be, beside some that are plain.
func messages() []api.Message {
	r := dice(4)
	list := []api.Message{
		{}, {Marks: common}, {Segs: []api.Seg{{}, {}}}, {Marks: common, Segs: []api.Seg{{Name: "MSH"}}}, with(), with(one("a")), with(one("")), with(one("a"), one("")), with(one("a"), api.Field{}, one("b")),
		with(field(rep(comp("a", "", ""), comp(), comp("", "")), rep(), rep(comp("")))), with(field(rep(), rep(comp(), comp("", "x")))), with(one("\"\"")),
		{Marks: marksOf("AAAAA"), Segs: []api.Seg{{Name: "\r|", Fields: []api.Field{one("\t|"), one(""), {}}}, {}, {Name: "MSH"}}},
		with(make([]api.Field, 1000)...), with(append(make([]api.Field, 1000), one("end"), one(""))...), with(field(append(make([]api.Rep, 100), rep(append(make([]api.Comp, 100), comp(append(make([]string, 100), "s")...))...))...)),
		{Marks: common, Segs: make([]api.Seg, 500)},
	}
	for range 3000 {
		list = append(list, someTree(r, marksOf(pick(r, fives)), r.IntN(10)))
	}
	return list
}

func TestP605Normal(t *testing.T) {
	for _, m := range messages() {
		was := shape(m)
		n := Normal(m)
		if shape(n) != shape(modelTrim(m)) {
			t.Fatalf("P605: Normal of %s: %s", was, shape(n))
		}
		if shape(Normal(n)) != shape(n) {
			t.Errorf("P605: twice: %s", shape(Normal(n)))
		}
		if shape(m) != was {
			t.Errorf("P611: Normal changed %s", was)
		}
	}
	if n := Normal(with(field(rep(comp("", "")), rep(comp(), comp())))); len(n.Segs) != 2 || len(n.Segs[1].Fields) != 0 {
		t.Errorf("P605: all of it empty: %s", shape(n))
	}
}

func TestP606Equal(t *testing.T) {
	list := messages()[:400]
	var shapes []string
	for _, m := range list {
		shapes = append(shapes, shape(modelTrim(m)))
	}
	for i, a := range list {
		for j, b := range list[i:] {
			want := shapes[i] == shapes[i+j]
			if Equal(a, b) != want || Equal(b, a) != want {
				t.Fatalf("P606: %s and %s: %v", shape(a), shape(b), !want)
			}
		}
		if !Equal(a, Normal(a)) {
			t.Errorf("P606: %s and its normal form", shape(a))
		}
	}
}

func TestP606OneThingElse(t *testing.T) {
	base := func() api.Message {
		return with(one("a"), field(rep(comp("b", "c"), comp("d")), rep(comp("e"))), api.Field{}, one("f"))
	}
	for what, change := range map[string]func(m *api.Message){
		"a mark":                    func(m *api.Message) { m.Marks.Sub = '%' },
		"marks turned":              func(m *api.Message) { m.Marks.Sub, m.Marks.Rep = m.Marks.Rep, m.Marks.Sub },
		"a name":                    func(m *api.Message) { m.Segs[1].Name = "PIE" },
		"a segment more":            func(m *api.Message) { m.Segs = append(m.Segs, api.Seg{Name: "PID"}) },
		"an empty segment":          func(m *api.Message) { m.Segs = append(m.Segs, api.Seg{}) },
		"a segment less":            func(m *api.Message) { m.Segs = m.Segs[:1] },
		"segments turned":           func(m *api.Message) { slices.Reverse(m.Segs) },
		"a field less":              func(m *api.Message) { m.Segs[1].Fields = m.Segs[1].Fields[:3] },
		"a field more":              func(m *api.Message) { m.Segs[1].Fields = append(m.Segs[1].Fields, one("g")) },
		"fields turned":             func(m *api.Message) { slices.Reverse(m.Segs[1].Fields) },
		"an empty field":            func(m *api.Message) { m.Segs[1].Fields = append([]api.Field{{}}, m.Segs[1].Fields...) },
		"a rep less":                func(m *api.Message) { m.Segs[1].Fields[1].Reps = m.Segs[1].Fields[1].Reps[:1] },
		"a rep more":                func(m *api.Message) { m.Segs[1].Fields[0].Reps = append(m.Segs[1].Fields[0].Reps, rep(comp("x"))) },
		"a comp less":               func(m *api.Message) { m.Segs[1].Fields[1].Reps[0].Comps = m.Segs[1].Fields[1].Reps[0].Comps[:1] },
		"a comp more":               func(m *api.Message) { m.Segs[1].Fields[0].Reps[0] = rep(comp("a"), comp("x")) },
		"a sub less":                func(m *api.Message) { m.Segs[1].Fields[1].Reps[0].Comps[0] = comp("b") },
		"a sub more":                func(m *api.Message) { m.Segs[1].Fields[0] = field(rep(comp("a", "x"))) },
		"another sub":               func(m *api.Message) { m.Segs[1].Fields[1].Reps[1] = rep(comp("x")) },
		"a sub moved":               func(m *api.Message) { m.Segs[1].Fields[3] = field(rep(comp("", "f"))) },
		"a null":                    func(m *api.Message) { m.Segs[1].Fields[2] = one("\"\"") },
		"a plain text by an escape": func(m *api.Message) { m.Segs[1].Fields[0] = one("\\X61\\") },
	} {
		m := base()
		change(&m)
		if Equal(m, base()) || Equal(base(), m) {
			t.Errorf("P606: %s: equal", what)
		}
	}
	for what, change := range map[string]func(m *api.Message){
		"nothing":        func(m *api.Message) {},
		"empty fields":   func(m *api.Message) { m.Segs[1].Fields = append(m.Segs[1].Fields, api.Field{}, one(""), field(rep())) },
		"an empty list":  func(m *api.Message) { m.Segs[0].Fields = []api.Field{} },
		"an empty field": func(m *api.Message) { m.Segs[1].Fields[2] = field(rep(comp("", "")), rep()) },
		"an empty sub":   func(m *api.Message) { m.Segs[1].Fields[0] = field(rep(comp("a", "", ""), comp()), rep(comp(""))) },
	} {
		m := base()
		change(&m)
		if !Equal(m, base()) || !Equal(base(), m) {
			t.Errorf("P606: %s: not equal", what)
		}
	}
	if !Equal(api.Message{}, api.Message{Segs: []api.Seg{}}) {
		t.Error("P606: nil and an empty list")
	}
}

// modelTurn turns each sub by itself; the first that is refused, in order, or the text's length says no.
func modelTurn(m api.Message, k api.Marks) (api.Message, *api.Fault) {
	n := modelTrim(m)
	n.Marks = k
	for _, s := range n.Segs {
		for _, f := range s.Fields {
			for _, r := range f.Reps {
				for _, c := range r.Comps {
					for i, sub := range c.Subs {
						turned, err := esc.Turn(m.Marks, k, sub)
						if err != nil {
							return api.Message{}, &api.Fault{Code: api.ErrWire, Under: err}
						}
						c.Subs[i] = turned
					}
				}
			}
		}
	}
	if len(modelText(n)) > api.MaxMessage {
		return api.Message{}, &api.Fault{Code: api.ErrLong}
	}
	return n, nil
}

func TestP607Plain(t *testing.T) {
	for _, x := range []struct{ text, five, want string }{
		{head + "|a\\F\\b#c", "#$%!?", "MSH#$%!?#a|b!F!c\r"},
		{head + "|A|a^b&c~d|\rPID||\\E\\#$%!?", "#$%!?", "MSH#$%!?#A#a$b?c%d\rPID##\\!F!!S!!R!!E!!T!\r"},
		{head + "|\\H\\x\\.br\\\\X0D\\&|||", "&\\~^|", "MSH&\\~^|&^H^x^.br^^X0D^\r"},
		{head + "|\\F\\\\S\\\\T\\\\R\\\\E\\", "|^~\\&", head + "|\\F\\\\S\\\\T\\\\R\\\\E\\\r"},
		{head, "#$%!?", "MSH#$%!?\r"},
		{"MSH#$%!?#!F!#$?x", "|^~\\&", head + "|#|^&x\r"},
	} {
		m, err := Turn(read1(t, x.text), marksOf(x.five))
		if err != nil || m.Marks != marksOf(x.five) || modelText(m) != x.want {
			t.Errorf("P607: Turn(%q, %q): %q, %v, want %q", x.text, x.five, modelText(m), err, x.want)
		}
	}
}

func TestP607Refused(t *testing.T) {
	m := read1(t, head+"|a|b\\.br\\|\\H\\c\\.in-3\\\rPID|\\.sp\\")
	for _, k := range []api.Marks{{}, marksOf("||~\\&"), marksOf("|^~\\A")} {
		turned, err := Turn(m, k)
		refused(t, fmt.Sprintf("P607: to %q", fiveOf(k)), err, api.ErrForm, 0, nil)
		if turned.Segs != nil || turned.Marks != (api.Marks{}) {
			t.Errorf("P607: %s beside an error", shape(turned))
		}
	}
	for five, at := range map[string]int{"|^~\\.": 1, ".^~\\&": 1, "|^~-&": 2} {
		turned, err := Turn(m, marksOf(five))
		refused(t, "P607: to "+five, err, api.ErrWire, 0, &api.Fault{Layer: "esc", At: at, Code: api.ErrPiece})
		if turned.Segs != nil || turned.Marks != (api.Marks{}) {
			t.Errorf("P607: %s beside an error", shape(turned))
		}
	}
	// A sub that grows too long, ahead of one with a mark in its body, and behind it; both ahead of the whole that is too long.
	long := with(one(strings.Repeat("#", 3000)), one("\\.br\\"))
	_, err := Turn(long, marksOf("#^~\\."))
	refused(t, "P607: too long a sub first", err, api.ErrWire, 0, &api.Fault{Layer: "esc", Code: api.ErrLong})
	slices.Reverse(long.Segs[1].Fields)
	_, err = Turn(long, marksOf("#^~\\."))
	refused(t, "P607: a mark in a body first", err, api.ErrWire, 0, &api.Fault{Layer: "esc", Code: api.ErrPiece})
	last := with(one(strings.Repeat("#", 2000)), one(strings.Repeat("#", 2000)), one("\\.br\\"))
	_, err = Turn(last, marksOf("#^~\\."))
	refused(t, "P607: a mark in a body behind what is too long in all", err, api.ErrWire, 0, &api.Fault{Layer: "esc", Code: api.ErrPiece})
	last.Segs[1].Fields = last.Segs[1].Fields[:2]
	_, err = Turn(last, marksOf("#^~\\."))
	refused(t, "P607: too long in all", err, api.ErrLong, 0, nil)
}

func TestP607Bound(t *testing.T) {
	for n := 8185; n <= 8197; n++ {
		// Marks of the message to # $ % ! ?: 14 bytes around two subs; each # takes three.
		grown := (n - 15) / 2 / 3
		m := with(one(strings.Repeat("#", grown)), one(strings.Repeat("x", n-15-3*grown)), one(""))
		turned, err := Turn(m, other)
		if n > api.MaxMessage {
			refused(t, fmt.Sprintf("P607: %d bytes", n), err, api.ErrLong, 0, nil)
			continue
		}
		if err != nil || len(modelText(turned)) != n {
			t.Errorf("P607: %d bytes: %d, %v", n, len(modelText(turned)), err)
		}
	}
	// Of the message that is handed in the length doesn't matter, if what it is turned to may be.
	m := with(one(strings.Repeat("\\F\\", 2000)), one(strings.Repeat("\\F\\", 2000)))
	if turned, err := Turn(m, other); err != nil || len(modelText(turned)) != 14+1+4000 {
		t.Errorf("P607: what becomes shorter: %d, %v", len(modelText(turned)), err)
	}
	_, err := Turn(m, common)
	refused(t, "P607: to its own marks, too long", err, api.ErrLong, 0, nil)
}

func TestP607P610RandomTrees(t *testing.T) {
	r := dice(5)
	taken := 0
	for i := range 20000 {
		from, to := marksOf(fives[i%len(fives)]), marksOf(fives[i/len(fives)%len(fives)])
		m := someTree(r, from, 0)
		want, no := modelTurn(m, to)
		turned, err := Turn(m, to)
		if !fits(err, no) || shape(turned) != shape(want) {
			t.Fatalf("P607: Turn of %s to %q: %s, %v, want %s, %v", shape(m), fiveOf(to), shape(turned), err, shape(want), no)
		}
		if err != nil {
			continue
		}
		taken++
		right(t, "what Turn gives", turned)
		back, err := Turn(turned, from)
		if err != nil || plainShape(t, back) != plainShape(t, modelTrim(m)) {
			t.Fatalf("P610: there and back: %s, %v, want %s", plainShape(t, back), err, plainShape(t, modelTrim(m)))
		}
		if plainShape(t, turned) != strings.Replace(plainShape(t, modelTrim(m)), fmt.Sprintf("%q", fiveOf(from)), fmt.Sprintf("%q", fiveOf(to)), 1) {
			t.Fatalf("P610: other plain texts: %s, of %s", plainShape(t, turned), plainShape(t, m))
		}
		if from == to && shape(turned) != shape(modelTrim(m)) {
			t.Fatalf("P607: to its own marks: %s", shape(turned))
		}
	}
	if taken < 5000 {
		t.Errorf("only %d were turned", taken)
	}
}

// plainShape is a message's shape with the plain text in the place of each sub.
func plainShape(t *testing.T, m api.Message) string {
	t.Helper()
	n := modelTrim(m)
	for _, s := range n.Segs {
		for _, f := range s.Fields {
			for _, r := range f.Reps {
				for _, c := range r.Comps {
					for i, sub := range c.Subs {
						plain, err := esc.Unescape(m.Marks, sub)
						if err != nil {
							t.Fatal(err)
						}
						c.Subs[i] = plain
					}
				}
			}
		}
	}
	return shape(n)
}

func TestP609RandomTrees(t *testing.T) {
	r := dice(6)
	for range 20000 {
		m := someTree(r, marksOf(pick(r, fives)), 0)
		b, err := Print(m)
		if err != nil || string(b) != modelText(modelTrim(m)) {
			t.Fatalf("P603: Print of %s: %q, %v", shape(m), b, err)
		}
		back, err := Parse(b)
		if err != nil || shape(back) != shape(Normal(m)) || !Equal(back, m) {
			t.Fatalf("P609: Parse(%q): %s, %v, want %s", b, shape(back), err, shape(Normal(m)))
		}
		// As it stands, empty ends and all, it is read as the same.
		raw := modelText(m)
		if back, err = Parse([]byte(raw)); err != nil || !Equal(back, m) {
			t.Fatalf("P609: Parse(%q): %s, %v", raw, shape(back), err)
		}
		if again, err := Print(back); err != nil || string(again) != string(b) {
			t.Fatalf("P609: equal messages, %q and %q, %v", again, b, err)
		}
	}
}

func TestP609LastCR(t *testing.T) {
	text := head + "|" + strings.Repeat("x", 8183)
	m := read1(t, text)
	_, err := Print(m)
	refused(t, "P609: 8192 bytes without the last CR", err, api.ErrLong, 0, nil)
	for _, text := range []string{text[:8191], text[:8191] + "|", text[:8190] + "\r", text[:8191] + "\r"} {
		b, err := Print(read1(t, text))
		if want := strings.TrimRight(text, "|\r") + "\r"; err != nil || string(b) != want {
			t.Errorf("P609: %d bytes: %d, %v", len(text), len(b), err)
		}
	}
}

// gone tells what a loop over segments is given.
func gone(seq iter.Seq2[int, api.Seg]) string {
	s := ""
	for i, seg := range seq {
		s += fmt.Sprint(i, " ", segShape(seg), "\n")
	}
	return s
}

func TestP608Segments(t *testing.T) {
	m := read1(t, head+"|x\rPID|1\rNK1\rPID|a^b&c~d|\rPIE\rFHS")
	for name, want := range map[string][]int{"": {0, 1, 2, 3, 4, 5}, "PID": {1, 3}, "MSH": {0}, "NK1": {2}, "FHS": {5}, "OBX": nil, "PI": nil, "PIDX": nil, "pid": nil, "\x00": nil} {
		var at []int
		for i, s := range Segments(m, name) {
			at = append(at, i)
			if segShape(s) != segShape(m.Segs[i]) {
				t.Errorf("P608: number %d of %q: %s", i, name, segShape(s))
			}
		}
		if !slices.Equal(at, want) {
			t.Errorf("P608: Segments(%q): %v, want %v", name, at, want)
		}
	}
	for _, m := range messages()[:200] {
		want := ""
		for i, s := range m.Segs {
			want += fmt.Sprint(i, " ", segShape(s), "\n")
		}
		if got := gone(Segments(m, "")); got != want {
			t.Fatalf("P608: %q, want %q: as it stood, empty ends too", got, want)
		}
	}
	if got := gone(Segments(api.Message{}, "")) + gone(Segments(api.Message{Segs: []api.Seg{}}, "PID")); got != "" {
		t.Errorf("P608: of no message: %q", got)
	}
	odd := api.Message{Segs: []api.Seg{{Name: "x|"}, {}, {Name: "x|"}}}
	if got := gone(Segments(odd, "x|")); got != "0 \"x|\"\n2 \"x|\"\n" {
		t.Errorf("P608: a name that is none: %q", got)
	}
}

func TestP608SeveralTimes(t *testing.T) {
	text := head + "|x\rPID|1\rNK1|n\rPID|a^b&c~d||e\rOBX"
	for _, name := range []string{"", "PID", "OBX"} {
		m := read1(t, text)
		seq := Segments(m, name)
		want := gone(seq)
		if want == "" {
			t.Fatal("nothing to go over")
		}
		scribble(m)
		if got := gone(seq); got != want {
			t.Errorf("P608: behind a message written over: %q, want %q", got, want)
		}
		for _, s := range seq {
			scribble(api.Message{Segs: []api.Seg{s}})
		}
		if got := gone(seq); got != want {
			t.Errorf("P608: behind segments written over: %q, want %q", got, want)
		}
		for stop := range 3 {
			n := 0
			for _, s := range seq {
				scribble(api.Message{Segs: []api.Seg{s}})
				if n++; n > stop {
					break
				}
			}
			if got := gone(seq); got != want {
				t.Errorf("P608: behind a loop that stopped: %q, want %q", got, want)
			}
		}
		inner := ""
		for range seq {
			inner += gone(seq)
		}
		if inner != strings.Repeat(want, strings.Count(want, "\n")) {
			t.Errorf("P608: a loop in a loop: %q", inner)
		}
		next, stop := iter.Pull2(seq)
		next()
		if got := gone(seq); got != want {
			t.Errorf("P608: beside one that is not done: %q", got)
		}
		stop()
	}
}
