package types

import (
	"errors"
	"math/rand"
	"regexp"
	"slices"
	"strings"
	"testing"

	"courier/api"
	"courier/esc"
	"courier/stamp"
)

// The model: the chapter's tables as plain text, the rules of texts as patterns, and a value as a grid of cells.

var common = api.Marks{Field: '|', Comp: '^', Rep: '~', Esc: '\\', Sub: '&'}

// quoted are marks of which one is the quotation mark, in each of the five places.
func quoted() []api.Marks {
	return []api.Marks{
		{Field: '"', Comp: '^', Rep: '~', Esc: '\\', Sub: '&'},
		{Field: '|', Comp: '"', Rep: '~', Esc: '\\', Sub: '&'},
		{Field: '|', Comp: '^', Rep: '"', Esc: '\\', Sub: '&'},
		{Field: '|', Comp: '^', Rep: '~', Esc: '"', Sub: '&'},
		{Field: '|', Comp: '^', Rep: '~', Esc: '\\', Sub: '"'},
	}
}

const modelComposites = `
| HD | IS ST ID |
| EI | ST* IS ST ID |
| CE | ST ST ID ST ST ID |
| CWE | ST ST ID ST ST ID ST ST ST |
| MSG | ID0076* ID0003 ID |
| PT | ID0103* ID |
| VID | ID0104* CE CE |
| ERL | ST* SI* SI SI SI SI |
| CX | ST* ST ID HD ID |
| FN | ST* ST ST ST ST |
| XPN | FN ST ST ST ST ID |
| PL | IS IS IS HD IS ID |
`

const modelTables = `0003: A01 A02 A03 A04 A08 A11 A12 A13 O01 O21 P01 Q01 R01. 0008: AA AE AR CA CE CR. 0061: DNS ISO M10 M11 UUID. 0076: ACK ADT BAR ORM ORU QRY. 0103: D P T. 0104: 2.1 2.2 2.3 2.3.1 2.4 2.5 2.5.1. 0155: AL ER NE SU. 0357: 0 100 101 102 103 200 201 202 203 204 205 206 207. 0516: E F I W. `

var patterns = map[string]*regexp.Regexp{
	"TX": regexp.MustCompile(``),
	"FT": regexp.MustCompile(``),
	"NM": regexp.MustCompile(`\A[+-]?[0-9]+(\.[0-9]+)?\z`),
	"SI": regexp.MustCompile(`\A[0-9]{1,4}\z`),
	"ID": regexp.MustCompile(`\A[0-9A-Za-z_.-]{1,20}\z`),
	"IS": regexp.MustCompile(`\A[0-9A-Za-z_.-]{1,20}\z`),
}

// modelRows are the composite kinds in the chapter's order, each with its parts' words.
func modelRows() (names []string, parts map[string][]string) {
	parts = map[string][]string{}
	for _, line := range strings.Split(strings.TrimSpace(modelComposites), "\n") {
		cells := strings.Split(strings.Trim(line, "| "), " | ")
		names = append(names, cells[0])
		parts[cells[0]] = strings.Split(cells[1], " ")
	}
	return names, parts
}

// modelLists are the tables by their four digits.
func modelLists() (numbers []string, values map[string][]string) {
	values = map[string][]string{}
	for _, row := range strings.Split(strings.TrimSuffix(modelTables, ". "), ". ") {
		number, list, _ := strings.Cut(row, ": ")
		numbers = append(numbers, number)
		values[number] = strings.Split(list, " ")
	}
	return numbers, values
}

var plainKinds = []string{"ST", "TX", "FT", "NM", "SI", "ID", "IS", "DT", "TM", "TS"}

var (
	compositeNames, modelWords = modelRows()
	tableNumbers, tableValues  = modelLists()
)

// primitiveNames are all primitive kinds, those with a table behind the others.
func primitiveNames() []string {
	names := slices.Clone(plainKinds)
	for _, n := range tableNumbers {
		names = append(names, "ID"+n)
	}
	return names
}

func allNames() []string { return append(primitiveNames(), compositeNames...) }

func isPrimitive(kind string) bool { return modelWords[kind] == nil }

// modelText is the number with which Text refuses a text of at most MaxMessage bytes that is not the null.
func modelText(kind, text string) api.Errno {
	ok := true
	switch {
	case kind == "ST":
		ok = len(text) < 200
	case kind == "NM":
		ok = len(text) < 17 && patterns["NM"].MatchString(text)
	case kind == "DT":
		s, err := stamp.Parse(text)
		ok = err == nil && s.Level <= api.StampDay && !s.Zoned
	case kind == "TM":
		s, err := stamp.Parse("20260101" + text)
		ok = err == nil && s.Level >= api.StampHour
	case kind == "TS":
		_, err := stamp.Parse(text)
		ok = err == nil
	case len(kind) == 2:
		ok = patterns[kind].MatchString(text)
	default:
		if ok = patterns["ID"].MatchString(text); ok && !slices.Contains(tableValues[kind[2:]], text) {
			return api.ErrValue
		}
	}
	if !ok {
		return api.ErrType
	}
	return api.OK
}

// modelFlaw is the flaw of a subcomponent.
func modelFlaw(m api.Marks, kind, wire string) int {
	if wire == "" || wire == "\"\"" {
		return 0
	}
	text, err := esc.Unescape(m, wire)
	if err != nil {
		return 102
	}
	pieces, _ := esc.Split(m, wire)
	for _, p := range pieces {
		if (kind == "ST" || kind == "TX") && (p.Kind == api.PieceHigh || p.Kind == api.PieceCommand) {
			return 102
		}
	}
	switch modelText(kind, text) {
	case api.ErrType:
		return 102
	case api.ErrValue:
		return 103
	}
	return 0
}

// cell is what stands at a place of a value and what the kind says of it.
type cell struct {
	comp, sub int
	wire      string
}

// modelCells are a value's cells that are not empty, in order.
func modelCells(r api.Rep) []cell {
	var l []cell
	for c, comp := range r.Comps {
		for s, wire := range comp.Subs {
			if wire != "" {
				l = append(l, cell{c + 1, s + 1, wire})
			}
		}
	}
	return l
}

// modelParts are a kind's words: of a primitive one itself.
func modelParts(kind string) []string {
	if isPrimitive(kind) {
		return []string{kind}
	}
	return modelWords[kind]
}

// modelCheck gathers the flaws of all cells and of all that is missing, sorts them by place, and then cuts.
func modelCheck(m api.Marks, kind string, r api.Rep) []api.Flaw {
	cells := modelCells(r)
	if len(cells) == 0 {
		return nil
	}
	var l []api.Flaw
	words := modelParts(kind)
	for c, word := range words {
		var mine []cell
		for _, x := range cells {
			if x.comp == c+1 {
				mine = append(mine, x)
			}
		}
		l = append(l, modelComponent(m, c+1, word, mine)...)
	}
	for _, x := range cells {
		if x.comp > len(words) {
			return append(l, api.Flaw{Comp: x.comp, Sub: 0, Code: 102})
		}
	}
	return l
}

// modelComponent tells the flaws of a component by its cells that are not empty.
func modelComponent(m api.Marks, c int, word string, mine []cell) []api.Flaw {
	name, must := strings.CutSuffix(word, "*")
	if len(mine) == 0 {
		if must {
			return []api.Flaw{{Comp: c, Sub: 0, Code: 101}}
		}
		return nil
	}
	if isPrimitive(name) {
		for _, x := range mine {
			if x.sub > 1 {
				return []api.Flaw{{Comp: c, Sub: x.sub, Code: 102}}
			}
		}
		if code := modelFlaw(m, name, mine[0].wire); code != 0 {
			return []api.Flaw{{Comp: c, Sub: 1, Code: code}}
		}
		return nil
	}
	var l []api.Flaw
	own := modelParts(name)
	for s, w := range own {
		kind, must := strings.CutSuffix(w, "*")
		at := slices.IndexFunc(mine, func(x cell) bool { return x.sub == s+1 })
		code := 0
		if at >= 0 {
			code = modelFlaw(m, kind, mine[at].wire)
		} else if must {
			code = 101
		}
		if code != 0 {
			l = append(l, api.Flaw{Comp: c, Sub: s + 1, Code: code})
		}
	}
	for _, x := range mine {
		if x.sub > len(own) {
			return append(l, api.Flaw{Comp: c, Sub: x.sub, Code: 102})
		}
	}
	return l
}

// value reads a value as it stands on the wire under the common marks.
func value(wire string) api.Rep {
	var r api.Rep
	for _, c := range strings.Split(wire, "^") {
		r.Comps = append(r.Comps, api.Comp{Subs: strings.Split(c, "&")})
	}
	return r
}

// wireOf writes a value under the common marks.
func wireOf(r api.Rep) string {
	var comps []string
	for _, c := range r.Comps {
		comps = append(comps, strings.Join(c.Subs, "&"))
	}
	return strings.Join(comps, "^")
}

// refused fails the test where an error is none of layer types with that number and place and nothing under it.
func refused(t *testing.T, what string, err error, code api.Errno, at int) {
	t.Helper()
	f, ok := err.(*api.Fault)
	if !ok || f == nil || f.Layer != "types" || f.Code != code || f.At != at || f.Under != nil || !errors.Is(err, code) {
		t.Errorf("%s: %v, want number %d at %d", what, err, code, at)
	}
}

// refusedOver is refused, with an error of layer 5 under it.
func refusedOver(t *testing.T, what string, err error, code api.Errno, at int, under error) {
	t.Helper()
	f, ok := err.(*api.Fault)
	if !ok || f == nil || f.Layer != "types" || f.Code != code || f.At != at || !errors.Is(err, code) {
		t.Errorf("%s: %v, want number %d at %d", what, err, code, at)
		return
	}
	below, ok := f.Under.(*api.Fault)
	if want := under.(*api.Fault); !ok || *below != *want {
		t.Errorf("%s: under it %v, want %v", what, f.Under, want)
	}
}

// wrongMarks are marks that are not right, with a fault in each place.
func wrongMarks() []api.Marks {
	return []api.Marks{
		{},
		{Field: 'A', Comp: '^', Rep: '~', Esc: '\\', Sub: '&'},
		{Field: '|', Comp: '|', Rep: '~', Esc: '\\', Sub: '&'},
		{Field: '|', Comp: '^', Rep: ' ', Esc: '\\', Sub: '&'},
		{Field: '|', Comp: '^', Rep: '~', Esc: 0, Sub: '&'},
		{Field: '|', Comp: '^', Rep: '~', Esc: '\\', Sub: '|'},
		{Field: '|', Comp: '^', Rep: '~', Esc: '\\', Sub: 0xFF},
	}
}

// tooWide are values with more components, or more subcomponents, than may be.
func tooWide() map[string]api.Rep {
	full := make([]string, api.MaxSubs+1)
	return map[string]api.Rep{
		"33 components":           {Comps: make([]api.Comp, api.MaxComps+1)},
		"17 subs of the first":    {Comps: []api.Comp{{Subs: full}}},
		"17 subs of the last":     {Comps: append(make([]api.Comp, api.MaxComps-1), api.Comp{Subs: full})},
		"33, the last with bytes": {Comps: append(make([]api.Comp, api.MaxComps), api.Comp{Subs: []string{"x"}})},
	}
}

// someWires are texts that are right, nearly right or wrong for the kinds.
var someWires = []string{
	"", "", "", "\"\"", "\"", "\"\"\"", `\X2222\`, "x", "1", "0012", "12345", "-1.5", "1.", "ADT", "A01", "A09", "Z99", "P", "2.5.1", "2.6",
	"AA", "ISO", "AL", "E", "207", "208", "ACK", "a b", "a_1.-", "abcdefghijklmnopqrst", "abcdefghijklmnopqrstu",
	"2026", "20261301", "202602", "1230", "25", "20260101120000.1234+0100", `a\H\b`, `a\.br\`, `\.sp999\`, `1\Z\`, `\Z\`, `\C1234\`,
	`A\X44\T`, `\F\`, `\Q\`, "a\tb", "a^b", "a|b", "\xFF\xFE", "!",
}

func randomRep(r *rand.Rand) api.Rep {
	var v api.Rep
	for range r.Intn(11) {
		var c api.Comp
		for range []int{0, 1, 1, 1, 2, 3, 4, 6, 7}[r.Intn(9)] {
			c.Subs = append(c.Subs, someWires[r.Intn(len(someWires))])
		}
		v.Comps = append(v.Comps, c)
	}
	return v
}

// cloneRep copies a value whole, so that it can be held against what it was.
func cloneRep(r api.Rep) api.Rep {
	var c api.Rep
	for _, x := range r.Comps {
		c.Comps = append(c.Comps, api.Comp{Subs: slices.Clone(x.Subs)})
	}
	return c
}

func sameRep(a, b api.Rep) bool {
	return slices.EqualFunc(a.Comps, b.Comps, func(x, y api.Comp) bool { return slices.Equal(x.Subs, y.Subs) })
}
