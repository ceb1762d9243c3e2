package types

import (
	"math/rand"
	"slices"
	"strconv"
	"strings"
	"testing"

	"courier/api"
	"courier/esc"
)

// found holds what Check finds against a list of flaws.
func found(t *testing.T, m api.Marks, kind string, r api.Rep, want []api.Flaw) {
	t.Helper()
	l, err := Check(m, kind, r)
	if err != nil || !slices.Equal(l, want) {
		t.Errorf("Check(%v, %s, %s): %v, %v, want %v", m, kind, wireOf(r), l, err, want)
	}
}

// flawsAt makes a list of flaws of three numbers each.
func flawsAt(numbers ...int) []api.Flaw {
	var l []api.Flaw
	for n := range slices.Chunk(numbers, 3) {
		l = append(l, api.Flaw{Comp: n[0], Sub: n[1], Code: n[2]})
	}
	return l
}

func TestP803Flaws(t *testing.T) {
	for _, c := range []struct {
		kind, wire string
		want       []api.Flaw
	}{
		{"MSG", "ADT^A01", nil},
		{"MSG", "^A01", flawsAt(1, 0, 101)},
		{"MSG", "ADT^Z99", flawsAt(2, 1, 103)},
		{"MSG", "A!^A01^x^y", flawsAt(1, 1, 102, 4, 0, 102)},
		{"SI", "12345", flawsAt(1, 1, 102)},
		{"SI", "1&2", flawsAt(1, 2, 102)},
		{"SI", "1^2", flawsAt(2, 0, 102)},
		{"SI", "\"\"", nil},
		{"CX", "1^^^A&B&C&D", flawsAt(4, 4, 102)},
		{"CX", "1^^^&B&!", flawsAt(4, 3, 102)},
		{"XPN", "&x", flawsAt(1, 1, 101)},
		{"XPN", "^x", nil},
		{"VID", "2.5.1^X", nil},
		{"MSG", "", nil},
		{"ST", `a\H\b`, flawsAt(1, 1, 102)},
		{"FT", `a\H\b`, nil},
		{"ST", `\Q\`, flawsAt(1, 1, 102)},
		// Beyond the kind's parts the first one ends all; empty ones there are none.
		{"SI", "x^y^z", flawsAt(1, 1, 102, 2, 0, 102)},
		{"SI", "^^^1^2", flawsAt(4, 0, 102)},
		{"SI", "^^&&^1", flawsAt(4, 0, 102)},
		{"SI", "1^^&^", nil},
		{"PT", "^^x", flawsAt(1, 0, 101, 3, 0, 102)},
		{"PT", "^^&x^y&z", flawsAt(1, 0, 101, 3, 0, 102)},
		{"SI", "^\"\"", flawsAt(2, 0, 102)},
		// What is required counts also behind the value's end.
		{"ERL", "PID", flawsAt(2, 0, 101)},
		{"ERL", "^^3", flawsAt(1, 0, 101, 2, 0, 101)},
		{"ERL", "PID^1", nil},
		{"ERL", "PID^x^y^1^^z", flawsAt(2, 1, 102, 3, 1, 102, 6, 1, 102)},
		{"EI", "^^&", nil},
		{"EI", "^^x", flawsAt(1, 0, 101)},
		{"EI", "\"\"^a", nil},
		// A primitive part: what stands behind its first subcomponent is its one flaw.
		{"SI", "x&2", flawsAt(1, 2, 102)},
		{"SI", "&2", flawsAt(1, 2, 102)},
		{"SI", "1&&3&4", flawsAt(1, 3, 102)},
		{"SI", "1&\"\"", flawsAt(1, 2, 102)},
		{"SI", "1&&&", nil},
		{"SI", "x&&&", flawsAt(1, 1, 102)},
		{"MSG", "A!&x^Z99&y^ok", flawsAt(1, 2, 102, 2, 2, 102)},
		{"PT", "&x^P", flawsAt(1, 2, 102)},
		// A composite part.
		{"CX", "1^^^A&B&!&D&E", flawsAt(4, 3, 102, 4, 4, 102)},
		{"CX", "1^^^&&&&E^!", flawsAt(4, 5, 102, 5, 1, 102)},
		{"CX", "1^^^&&&&", nil},
		{"CX", "^^^!&&!", flawsAt(1, 0, 101, 4, 1, 102, 4, 3, 102)},
		{"XPN", "&x&&&&y", flawsAt(1, 1, 101, 1, 6, 102)},
		{"XPN", "&&&&&y&z^^^^^!", flawsAt(1, 1, 101, 1, 6, 102, 6, 1, 102)},
		{"XPN", "&^x", nil},
		{"XPN", "\"\"&x", nil},
		{"VID", "2.6^a&b&c d&e^&&&&&!^z", flawsAt(1, 1, 103, 2, 3, 102, 3, 6, 102, 4, 0, 102)},
		{"VID", "^a", flawsAt(1, 0, 101)},
		{"PL", "^^^a b&&c d^!^", flawsAt(4, 1, 102, 4, 3, 102, 5, 1, 102)},
		// A table's value that is none is another flaw than a text that is no ID.
		{"ID0008", "AB", flawsAt(1, 1, 103)},
		{"ID0008", "A B", flawsAt(1, 1, 102)},
		{"ID0008", `A\X41\`, nil},
		{"ID0008", `\X41\\X42\`, flawsAt(1, 1, 103)},
		{"ID0008", `\Z\`, flawsAt(1, 1, 102)},
	} {
		found(t, common, c.kind, value(c.wire), c.want)
		if got := modelCheck(common, c.kind, value(c.wire)); !slices.Equal(got, c.want) {
			t.Errorf("the model of %s, %s: %v, want %v", c.kind, c.wire, got, c.want)
		}
	}
}

func TestP803Pieces(t *testing.T) {
	for _, c := range []struct {
		wire string
		not  []string // the kinds for which it is not right, of ST TX FT ID NM
	}{
		{`1\Z\`, nil}, {`1\Zab9\`, nil}, {`1\C1234\`, nil}, {`1\M123456\`, nil}, {`\X31\`, nil},
		{`1\H\`, []string{"ST", "TX"}}, {`1\N\`, []string{"ST", "TX"}},
		{`\.ce\1`, []string{"ST", "TX"}}, {`\.fi\1`, []string{"ST", "TX"}}, {`\.nf\1`, []string{"ST", "TX"}},
		{`\.in+3\1`, []string{"ST", "TX"}}, {`\.ti-3\1`, []string{"ST", "TX"}},
		{`\.br\1`, []string{"ST", "TX", "ID", "NM"}}, {`\.sp2\1`, []string{"ST", "TX", "ID", "NM"}}, {`\.sk2\1`, []string{"ST", "TX", "ID", "NM"}},
		{`\F\`, []string{"ID", "NM"}}, {`1\X0D\`, []string{"ID", "NM"}}, {`\Z\`, []string{"ID", "NM"}},
		{`\Q\`, []string{"ST", "TX", "FT", "ID", "NM"}}, {"1\t", []string{"ST", "TX", "FT", "ID", "NM"}}, {`1\`, []string{"ST", "TX", "FT", "ID", "NM"}},
		{"1^2", []string{"ST", "TX", "FT", "ID", "NM"}}, {"1&2", []string{"ST", "TX", "FT", "ID", "NM"}}, {"1|2", []string{"ST", "TX", "FT", "ID", "NM"}}, {"1~2", []string{"ST", "TX", "FT", "ID", "NM"}},
		{`\X2222\`, []string{"ID", "NM"}}, {"\"", []string{"ID", "NM"}}, {"\"\"\"", []string{"ID", "NM"}},
	} {
		for _, kind := range []string{"ST", "TX", "FT", "ID", "NM"} {
			var want []api.Flaw
			if slices.Contains(c.not, kind) {
				want = flawsAt(1, 1, 102)
			}
			found(t, common, kind, api.Rep{Comps: []api.Comp{{Subs: []string{c.wire}}}}, want)
		}
	}
}

// TestP803Lengths: the plain text's length counts, and layer 5 takes no wire text above MaxMessage.
func TestP803Lengths(t *testing.T) {
	bad := flawsAt(1, 1, 102)
	for _, c := range []struct {
		kind, wire string
		want       []api.Flaw
	}{
		{"ST", strings.Repeat("x", 199), nil},
		{"ST", strings.Repeat("x", 200), bad},
		{"ST", strings.Repeat(`\F\`, 199), nil},
		{"ST", strings.Repeat(`\F\`, 200), bad},
		{"ST", strings.Repeat(`\Z\`, 2700) + "x", nil},
		{"TX", strings.Repeat("x", 200), nil},
		{"TX", strings.Repeat("x", 8192), nil},
		{"TX", strings.Repeat("x", 8193), bad},
		{"FT", strings.Repeat("x", 8192), nil},
		{"FT", strings.Repeat("x", 8193), bad},
		{"FT", strings.Repeat(`\.sp999\`, 1024), nil},
		{"FT", strings.Repeat(`\.sp999\`, 1024) + "x", bad},
		{"ID", strings.Repeat("x", 20), nil},
		{"ID", strings.Repeat("x", 21), bad},
		{"ID", strings.Repeat("x", 20) + strings.Repeat(`\Z\`, 2724), nil},
		{"ID", strings.Repeat("x", 20) + strings.Repeat(`\Z\`, 2725), bad},
		{"NM", "1234567890.12345", nil},
		{"NM", "1234567890.123456", bad},
		{"SI", "1234" + `\Z\`, nil},
		{"SI", "1234" + `\X31\`, bad},
		{"ST", strings.Repeat("\"", 3), nil},
	} {
		found(t, common, c.kind, value(c.wire), c.want)
	}
}

func TestP803Errors(t *testing.T) {
	wide := tooWide()["33 components"]
	for _, kind := range noKinds {
		for _, m := range []api.Marks{common, {}} {
			l, err := Check(m, kind, wide)
			refused(t, "Check of "+kind, err, api.ErrKind, 0)
			if l != nil {
				t.Errorf("%v beside an error", l)
			}
		}
	}
	for _, m := range wrongMarks() {
		for _, kind := range allNames() {
			for _, r := range []api.Rep{{}, value("x"), wide} {
				l, err := Check(m, kind, r)
				refusedOver(t, "wrong marks", err, api.ErrMark, 0, esc.Valid(m))
				if l != nil {
					t.Errorf("%v beside an error", l)
				}
			}
		}
	}
	for what, r := range tooWide() {
		for _, kind := range allNames() {
			l, err := Check(common, kind, r)
			refused(t, what, err, api.ErrMany, 0)
			if l != nil {
				t.Errorf("%v beside an error", l)
			}
		}
	}
}

func TestP803Widest(t *testing.T) {
	for _, kind := range allNames() {
		comps := make([]api.Comp, api.MaxComps)
		for c := range comps {
			comps[c].Subs = make([]string, api.MaxSubs)
		}
		r := api.Rep{Comps: comps}
		found(t, common, kind, r, nil)
		for _, at := range [][2]int{{0, 0}, {0, 1}, {0, 15}, {3, 15}, {31, 0}, {31, 15}, {8, 0}, {9, 0}} {
			comps[at[0]].Subs[at[1]] = "1"
			found(t, common, kind, r, modelCheck(common, kind, r))
			comps[at[0]].Subs[at[1]] = ""
		}
	}
}

func TestP803Empty(t *testing.T) {
	for _, kind := range allNames() {
		for _, r := range []api.Rep{{}, {Comps: []api.Comp{}}, {Comps: []api.Comp{{}}}, {Comps: []api.Comp{{Subs: []string{""}}, {Subs: []string{"", ""}}, {}}}, {Comps: make([]api.Comp, api.MaxComps)}} {
			found(t, common, kind, r, nil)
		}
	}
}

func TestP803NullUnderAllMarks(t *testing.T) {
	null := api.Comp{Subs: []string{"\"\""}}
	for _, m := range append(quoted(), common) {
		for _, kind := range primitiveNames() {
			found(t, m, kind, api.Rep{Comps: []api.Comp{null}}, nil)
			found(t, m, kind, api.Rep{Comps: []api.Comp{null, null}}, flawsAt(2, 0, 102))
			for _, wire := range []string{"\"", "\"\"\"", "\"\"\"\"", `\X2222\`, "\"\" "} {
				r := api.Rep{Comps: []api.Comp{{Subs: []string{wire}}}}
				found(t, m, kind, r, modelCheck(m, kind, r))
			}
		}
		found(t, m, "PT", api.Rep{Comps: []api.Comp{null, null}}, nil)
		found(t, m, "ERL", api.Rep{Comps: []api.Comp{null, null}}, nil)
		found(t, m, "XPN", api.Rep{Comps: []api.Comp{{Subs: []string{"\"\"", "", "\"\""}}}}, nil)
	}
}

// TestP803EveryKindEveryText lays every text alone in each place of every kind.
func TestP803EveryKindEveryText(t *testing.T) {
	for _, kind := range allNames() {
		for _, wire := range someWires {
			for c := range 11 {
				for _, s := range []int{0, 1, 2, 3, 5, 6} {
					r := api.Rep{Comps: make([]api.Comp, c+1)}
					r.Comps[c].Subs = make([]string, s+1)
					r.Comps[c].Subs[s] = wire
					found(t, common, kind, r, modelCheck(common, kind, r))
				}
			}
		}
	}
}

func TestP803RandomAgainstModel(t *testing.T) {
	rnd := rand.New(rand.NewSource(803))
	names := allNames()
	marks := append(quoted(), common, common, common)
	for i := range 60000 {
		r := randomRep(rnd)
		m := marks[i%len(marks)]
		kind := names[rnd.Intn(len(names))]
		found(t, m, kind, r, modelCheck(m, kind, r))
	}
}

// rightText is a text that is right for a primitive kind, as it stands on the wire.
func rightText(rnd *rand.Rand, kind string) string {
	switch {
	case kind == "NM":
		return strconv.Itoa(rnd.Intn(2000)-1000) + "." + strconv.Itoa(rnd.Intn(100))
	case kind == "SI":
		return strconv.Itoa(rnd.Intn(10000))
	case kind == "DT" || kind == "TS":
		return "2026"
	case kind == "TM":
		return "1230"
	case len(kind) > 2:
		l := tableValues[kind[2:]]
		return l[rnd.Intn(len(l))]
	}
	return []string{"a", "A.b", "_-", "207"}[rnd.Intn(4)]
}

// TestP803NearlyRight begins with values that are right and lays one text into one place.
func TestP803NearlyRight(t *testing.T) {
	rnd := rand.New(rand.NewSource(8030))
	names := allNames()
	for range 40000 {
		kind := names[rnd.Intn(len(names))]
		var r api.Rep
		for _, word := range modelParts(kind) {
			part := strings.TrimSuffix(word, "*")
			var c api.Comp
			for _, sub := range modelParts(part) {
				c.Subs = append(c.Subs, rightText(rnd, strings.TrimSuffix(sub, "*")))
			}
			r.Comps = append(r.Comps, c)
		}
		if l, err := Check(common, kind, r); err != nil || len(l) > 0 {
			t.Fatalf("Check(%s, %s): %v, %v", kind, wireOf(r), l, err)
		}
		c := rnd.Intn(len(r.Comps))
		s := rnd.Intn(len(r.Comps[c].Subs))
		r.Comps[c].Subs[s] = someWires[rnd.Intn(len(someWires))]
		if rnd.Intn(3) == 0 {
			r.Comps[c].Subs = append(r.Comps[c].Subs, someWires[rnd.Intn(len(someWires))])
		}
		if rnd.Intn(3) == 0 {
			r.Comps = r.Comps[:rnd.Intn(len(r.Comps))+1]
		}
		found(t, common, kind, r, modelCheck(common, kind, r))
	}
}
