package types

import (
	"math/rand"
	"slices"
	"strings"
	"testing"

	"courier/api"
	"courier/esc"
)

type two [2]string
type three [3]string
type four [4]string
type six [6]string
type nine [9]string

var sizes = []int{2, 3, 4, 6, 9}

// flatKinds are the kinds that View and Lay take, each with its number of parts.
var flatKinds = map[string]int{"HD": 3, "EI": 4, "CE": 6, "CWE": 9, "MSG": 3, "PT": 2, "ERL": 6}

// viewOf is View of that many texts, once of the plain list type and once of a named one.
func viewOf(t *testing.T, size int, m api.Marks, kind string, r api.Rep) ([]string, error) {
	t.Helper()
	switch size {
	case 2:
		return alike(t, viewed(View[[2]string](m, kind, r)), viewed(View[two](m, kind, r)))
	case 3:
		return alike(t, viewed(View[[3]string](m, kind, r)), viewed(View[three](m, kind, r)))
	case 4:
		return alike(t, viewed(View[[4]string](m, kind, r)), viewed(View[four](m, kind, r)))
	case 6:
		return alike(t, viewed(View[[6]string](m, kind, r)), viewed(View[six](m, kind, r)))
	}
	return alike(t, viewed(View[[9]string](m, kind, r)), viewed(View[nine](m, kind, r)))
}

type view struct {
	texts []string
	err   error
}

func viewed[V Parted](v V, err error) view {
	var l []string
	for i := range len(v) {
		l = append(l, v[i])
	}
	return view{l, err}
}

func alike(t *testing.T, a, b view) ([]string, error) {
	t.Helper()
	if !slices.Equal(a.texts, b.texts) || (a.err == nil) != (b.err == nil) || a.err != nil && a.err.Error() != b.err.Error() {
		t.Errorf("a list answers %v, %v, a named one %v, %v", a.texts, a.err, b.texts, b.err)
	}
	if a.err != nil && slices.ContainsFunc(a.texts, func(s string) bool { return s != "" }) {
		t.Errorf("%v beside an error", a.texts)
	}
	return a.texts, a.err
}

// layOf is Lay of a list of 2, 3, 4, 6 or 9 texts.
func layOf(m api.Marks, kind string, texts []string) (api.Rep, error) {
	switch len(texts) {
	case 2:
		return Lay(m, kind, [2]string(texts))
	case 3:
		return Lay(m, kind, three(texts))
	case 4:
		return Lay(m, kind, [4]string(texts))
	case 6:
		return Lay(m, kind, six(texts))
	}
	return Lay(m, kind, [9]string(texts))
}

func TestP804View(t *testing.T) {
	for _, c := range []struct {
		kind, wire string
		want       []string
	}{
		{"HD", `LAB^1\T\2^ISO`, []string{"LAB", "1&2", "ISO"}},
		{"HD", "", []string{"", "", ""}},
		{"HD", "LAB", []string{"LAB", "", ""}},
		{"HD", "^x", []string{"", "x", ""}},
		{"HD", "LAB&&^&^", []string{"LAB", "", ""}},
		{"HD", "\"\"^\"\"^\"\"", []string{"\"\"", "\"\"", "\"\""}},
		{"HD", `a\Z\^\X0041\^\Zx\b`, []string{"a", "\x00A", "b"}},
		{"HD", "a^b^c^^&^", []string{"a", "b", "c"}},
		{"PT", "P^x", []string{"P", "x"}},
		{"EI", "a^b^c d^e", []string{"a", "b", "c d", "e"}},
		{"ERL", "PID^1^2^^4", []string{"PID", "1", "2", "", "4", ""}},
		{"CE", "^^^a^b^c", []string{"", "", "", "a", "b", "c"}},
		{"CWE", `1^2^3^4^5^6^7^8^\E\`, []string{"1", "2", "3", "4", "5", "6", "7", "8", "\\"}},
		{"MSG", "ADT^A01^ADT_A01", []string{"ADT", "A01", "ADT_A01"}},
		{"MSG", "", []string{"", "", ""}},
	} {
		got, err := viewOf(t, len(c.want), common, c.kind, value(c.wire))
		if err != nil || !slices.Equal(got, c.want) {
			t.Errorf("View(%s, %s): %q, %v, want %q", c.kind, c.wire, got, err, c.want)
		}
	}
}

func TestP804Flaws(t *testing.T) {
	for _, c := range []struct {
		kind, wire string
		size, at   int
	}{
		{"HD", "a b^x^c d", 3, 1},
		{"HD", "a^x^c d", 3, 3},
		{"HD", "a^b&c", 3, 2},
		{"HD", "a^^^x", 3, 4},
		{"HD", "^^^^^x", 3, 6},
		{"PT", "^T", 2, 1},
		{"PT", "X", 2, 1},
		{"ERL", "PID", 6, 2},
		{"ERL", "^^x", 6, 1},
		{"MSG", "ADT^Z99^!", 3, 2},
		{"EI", `a^^\H\`, 4, 3},
		{"CWE", `1^2^3^4^5^6^7^8^\Q\`, 9, 9},
	} {
		_, err := viewOf(t, c.size, common, c.kind, value(c.wire))
		refused(t, c.kind+" "+c.wire, err, api.ErrType, c.at)
	}
}

func TestP804P805Kinds(t *testing.T) {
	wide := tooWide()["33 components"]
	long := strings.Repeat("x", 9000)
	for _, kind := range append(allNames(), noKinds...) {
		for _, size := range sizes {
			if flatKinds[kind] == size {
				continue
			}
			for _, m := range []api.Marks{common, {}} {
				for _, r := range []api.Rep{{}, value("x"), wide} {
					_, err := viewOf(t, size, m, kind, r)
					refused(t, "View of "+kind, err, api.ErrKind, 0)
				}
				for _, text := range []string{"", "x", long} {
					texts := make([]string, size)
					texts[0] = text
					r, err := layOf(m, kind, texts)
					refused(t, "Lay of "+kind, err, api.ErrKind, 0)
					if r.Comps != nil {
						t.Errorf("%v beside an error", r)
					}
				}
			}
		}
	}
}

func TestP804P805Errors(t *testing.T) {
	long := strings.Repeat("x", 9000)
	for kind, size := range flatKinds {
		for _, m := range wrongMarks() {
			for _, r := range []api.Rep{{}, value("!^^^^^^^^^^x"), tooWide()["33 components"]} {
				_, err := viewOf(t, size, m, kind, r)
				refusedOver(t, "View under wrong marks", err, api.ErrMark, 0, esc.Valid(m))
			}
			for _, text := range []string{"", "!", long} {
				texts := make([]string, size)
				texts[0] = text
				r, err := layOf(m, kind, texts)
				refusedOver(t, "Lay under wrong marks", err, api.ErrMark, 0, esc.Valid(m))
				if r.Comps != nil {
					t.Errorf("%v beside an error", r)
				}
			}
		}
		for what, r := range tooWide() {
			_, err := viewOf(t, size, common, kind, r)
			refused(t, what, err, api.ErrMany, 0)
		}
	}
}

func TestP805Lay(t *testing.T) {
	for _, c := range []struct {
		kind  string
		texts []string
		want  [][]string
	}{
		{"PT", []string{"P", ""}, [][]string{{"P"}}},
		{"PT", []string{"", ""}, nil},
		{"HD", []string{"", "", "ISO"}, [][]string{{}, {}, {"ISO"}}},
		{"HD", []string{"LAB", "1&2", ""}, [][]string{{"LAB"}, {`1\T\2`}}},
		{"HD", []string{"LAB", "", "ISO"}, [][]string{{"LAB"}, {}, {"ISO"}}},
		{"HD", []string{"\"\"", "\"\"", ""}, [][]string{{"\"\""}, {"\"\""}}},
		{"EI", []string{"a|b^c~d\\e&f", "", "", ""}, [][]string{{`a\F\b\S\c\R\d\E\e\T\f`}}},
		{"EI", []string{"\r\n", "x", "\x00", "y"}, [][]string{{`\X0D0A\`}, {"x"}, {`\X00\`}, {"y"}}},
		{"MSG", []string{"ADT", "A01", "ADT_A01"}, [][]string{{"ADT"}, {"A01"}, {"ADT_A01"}}},
		{"ERL", []string{"PID", "1", "", "", "", "0"}, [][]string{{"PID"}, {"1"}, {}, {}, {}, {"0"}}},
		{"CWE", []string{"", "", "", "", "", "", "", "", "x"}, [][]string{{}, {}, {}, {}, {}, {}, {}, {}, {"x"}}},
	} {
		r, err := layOf(common, c.kind, c.texts)
		if err != nil || len(r.Comps) != len(c.want) {
			t.Errorf("Lay(%s, %q): %v, %v", c.kind, c.texts, r, err)
			continue
		}
		for i, want := range c.want {
			if !slices.Equal(r.Comps[i].Subs, want) {
				t.Errorf("Lay(%s, %q): component %d is %q, want %q", c.kind, c.texts, i, r.Comps[i].Subs, want)
			}
		}
		laid(t, common, c.kind, c.texts, r)
	}
}

// laid holds what Lay answers against P808.
func laid(t *testing.T, m api.Marks, kind string, texts []string, r api.Rep) {
	t.Helper()
	if l, err := Check(m, kind, r); err != nil || len(l) > 0 {
		t.Errorf("Check of Lay(%v, %s, %q): %v, %v", m, kind, texts, l, err)
	}
	if got, err := viewOf(t, len(texts), m, kind, r); err != nil || !slices.Equal(got, texts) {
		t.Errorf("View of Lay(%v, %s, %q): %q, %v", m, kind, texts, got, err)
	}
}

func TestP805Flaws(t *testing.T) {
	for _, c := range []struct {
		kind  string
		texts []string
		at    int
	}{
		{"PT", []string{"", "T"}, 1},
		{"PT", []string{"X", ""}, 1},
		{"PT", []string{"P", "a b"}, 2},
		{"HD", []string{"a b", "", ""}, 1},
		{"HD", []string{"a", strings.Repeat("x", 200), "c d"}, 2},
		{"HD", []string{"a", strings.Repeat("x", 199), "c d"}, 3},
		{"HD", []string{"a", strings.Repeat("\x00", 200), ""}, 2},
		{"ERL", []string{"PID", "", "", "", "", ""}, 2},
		{"ERL", []string{"", "", "", "", "", "1"}, 1},
		{"ERL", []string{"PID", "1", "2", "3", "4", "12345"}, 6},
		{"MSG", []string{"ADT", "Z99", "!"}, 2},
		{"CWE", []string{"1", "2", "3", "4", "5", "6", "7", "8", strings.Repeat("|", 200)}, 9},
	} {
		r, err := layOf(common, c.kind, c.texts)
		refused(t, c.kind, err, api.ErrType, c.at)
		if r.Comps != nil {
			t.Errorf("%v beside an error", r)
		}
	}
}

// TestP805Long: layer 5's refusal is not told under ErrLong, since the chapter names none there.
func TestP805Long(t *testing.T) {
	odd := api.Marks{Field: '\'', Comp: '!', Rep: '(', Esc: '"', Sub: '#'}
	for _, m := range append(quoted(), common, odd) {
		mark := string(rune(m.Field))
		for kind, size := range flatKinds {
			for at := range size {
				for _, text := range []string{strings.Repeat("x", 8193), strings.Repeat(mark, 2731), strings.Repeat("\x00", 4064), strings.Repeat("x", 1<<16)} {
					longAt(t, m, kind, size, at, text)
				}
				for _, text := range []string{strings.Repeat("x", 8192), strings.Repeat(mark, 2730) + "xx", strings.Repeat("x", 200)} {
					if _, err := esc.Escape(m, text); err != nil {
						t.Fatal(err)
					}
					texts := slices.Clone(firstRight[kind])
					texts[at] = text
					_, err := layOf(m, kind, texts)
					refused(t, "Lay of a text at layer 5's bound", err, api.ErrType, at+1)
				}
			}
		}
	}
}

// longAt lays a text that is too long at one part, with a wrong text in each part ahead of it.
func longAt(t *testing.T, m api.Marks, kind string, size int, at int, text string) {
	t.Helper()
	for _, fill := range []string{"", "*", text} {
		texts := make([]string, size)
		for i := range texts {
			texts[i] = "*"
			if i > at {
				texts[i] = fill
			}
		}
		texts[at] = text
		r, err := layOf(m, kind, texts)
		refused(t, "Lay of too long a text", err, api.ErrLong, at+1)
		if r.Comps != nil {
			t.Errorf("%v beside an error", r)
		}
	}
}

// firstRight is a right value of each kind that View takes.
var firstRight = map[string][]string{
	"HD":  {"LAB", "1.2.3", "ISO"},
	"EI":  {"1", "a", "b c", "d"},
	"CE":  {"1", "a b", "c", "d e", "f", "g"},
	"CWE": {"1", "a b", "c", "d e", "f", "g", "h", "i j", "k"},
	"MSG": {"ADT", "A01", "ADT_A01"},
	"PT":  {"P", "T"},
	"ERL": {"PID", "1", "2", "3", "4", "5"},
}

func TestP805NullUnderAllMarks(t *testing.T) {
	for _, m := range append(quoted(), common) {
		marked := m != common
		for kind, size := range flatKinds {
			for at := range size {
				texts := slices.Clone(firstRight[kind])
				texts[at] = "\"\""
				r, err := layOf(m, kind, texts)
				part := strings.TrimSuffix(modelWords[kind][at], "*")
				if marked && part != "ST" {
					refused(t, "two marks as "+part, err, api.ErrType, at+1)
					continue
				}
				if err != nil {
					t.Errorf("Lay(%v, %s, %q): %v", m, kind, texts, err)
					continue
				}
				laid(t, m, kind, texts, r)
				if !marked && !slices.Equal(r.Comps[at].Subs, []string{"\"\""}) {
					t.Errorf("the null is laid as %q", r.Comps[at].Subs)
				}
			}
			nulls := api.Rep{Comps: make([]api.Comp, size)}
			for i := range size {
				nulls.Comps[i].Subs = []string{"\"\""}
			}
			got, err := viewOf(t, size, m, kind, nulls)
			if err != nil || !slices.Equal(got, slices.Repeat([]string{"\"\""}, size)) {
				t.Errorf("View(%v, %s) of nulls: %q, %v", m, kind, got, err)
			}
		}
	}
}

// modelView is what View answers of a value without flaws.
func modelView(m api.Marks, size int, r api.Rep) []string {
	texts := make([]string, size)
	for _, x := range modelCells(r) {
		if texts[x.comp-1] = x.wire; x.wire != "\"\"" {
			texts[x.comp-1], _ = esc.Unescape(m, x.wire)
		}
	}
	return texts
}

func TestP804RandomAgainstModel(t *testing.T) {
	rnd := rand.New(rand.NewSource(804))
	marks := append(quoted(), common, common, common)
	seen := 0
	for i := range 30000 {
		m := marks[i%len(marks)]
		kind := compositeNames[rnd.Intn(len(compositeNames))]
		size := flatKinds[kind]
		if size == 0 {
			continue
		}
		r := randomRep(rnd)
		if rnd.Intn(4) > 0 {
			r = api.Rep{}
			for _, text := range firstRight[kind] {
				r.Comps = append(r.Comps, api.Comp{Subs: []string{text}})
			}
			r.Comps[rnd.Intn(size)].Subs = []string{someWires[rnd.Intn(len(someWires))], ""}
			r.Comps = r.Comps[:rnd.Intn(size+1)]
		}
		got, err := viewOf(t, size, m, kind, r)
		if l := modelCheck(m, kind, r); len(l) > 0 {
			refused(t, "View of "+kind+" "+wireOf(r), err, api.ErrType, l[0].Comp)
			continue
		}
		seen++
		if want := modelView(m, size, r); err != nil || !slices.Equal(got, want) {
			t.Errorf("View(%v, %s, %s): %q, %v, want %q", m, kind, wireOf(r), got, err, want)
		}
	}
	if seen < 1000 {
		t.Errorf("just %d values were right", seen)
	}
}

func TestP808LayRandom(t *testing.T) {
	rnd := rand.New(rand.NewSource(808))
	marks := append(quoted(), common, common, common)
	some := append(slices.Clone(someWires), "a|b", "x\r\n", "\x00", strings.Repeat("\x01", 199), strings.Repeat("^", 199), strings.Repeat("é", 99), "ADT", "P", "D")
	seen := 0
	for i := range 20000 {
		m := marks[i%len(marks)]
		kind := compositeNames[rnd.Intn(len(compositeNames))]
		if flatKinds[kind] == 0 {
			continue
		}
		texts := slices.Clone(firstRight[kind])
		for range rnd.Intn(4) {
			texts[rnd.Intn(len(texts))] = some[rnd.Intn(len(some))]
		}
		r, err := layOf(m, kind, texts)
		if want := modelLay(m, texts); err == nil {
			seen++
			laid(t, m, kind, texts, r)
			if !sameRep(r, want) {
				t.Errorf("Lay(%v, %s, %q): %v, want %v", m, kind, texts, r, want)
			}
		} else if l := modelCheck(m, kind, want); len(l) == 0 {
			t.Errorf("Lay(%v, %s, %q): %v", m, kind, texts, err)
		} else {
			refused(t, "Lay of "+kind, err, api.ErrType, l[0].Comp)
		}
	}
	if seen < 1000 {
		t.Errorf("just %d lists were right", seen)
	}
}

// modelLay is the value that texts of at most 199 bytes would make.
func modelLay(m api.Marks, texts []string) api.Rep {
	var r api.Rep
	last := 0
	for i, text := range texts {
		wire, _ := esc.Escape(m, text)
		r.Comps = append(r.Comps, api.Comp{Subs: []string{wire}})
		if text == "" {
			r.Comps[i].Subs = nil
		} else {
			last = i + 1
		}
	}
	r.Comps = r.Comps[:last]
	return r
}
