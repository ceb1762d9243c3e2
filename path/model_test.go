package path

import (
	"errors"
	"fmt"
	"maps"
	"math/rand/v2"
	"reflect"
	"regexp"
	"slices"
	"strconv"
	"strings"
	"testing"

	"courier/api"
	"courier/esc"
	"courier/tree"
)

// The chapter's rules a second time: texts of places by a pattern, messages as tables of their subcomponents.

var common = marksOf("|^~\\&")

// fives are Marks among which are letters' neighbours, those of escapes and those of the texts of places.
var fives = []string{"|^~\\&", "#$%!?", "&\\~^|", ".+-/:", "[].-|", "!\"{}~"}

func marksOf(five string) api.Marks {
	return api.Marks{Field: five[0], Comp: five[1], Rep: five[2], Esc: five[3], Sub: five[4]}
}

func dice(seed uint64) *rand.Rand { return rand.New(rand.NewPCG(seed, 7)) }

func pick[E any](r *rand.Rand, list []E) E { return list[r.IntN(len(list))] }

func at(seg string, numbers ...int) api.Place {
	all := append(numbers, 1, 1, 1, 1, 1)
	return api.Place{Seg: seg, Occur: all[0], Field: all[1], Rep: all[2], Comp: all[3], Sub: all[4]}
}

func mustParse(t *testing.T, text string) api.Message {
	t.Helper()
	m, err := tree.Parse([]byte(text))
	if err != nil {
		t.Fatalf("%q: %v", text, err)
	}
	return m
}

func refused(t *testing.T, what string, err error, place int, code api.Errno, below error) {
	t.Helper()
	want := &api.Fault{Layer: "path", At: place, Code: code, Under: below}
	f, ok := err.(*api.Fault)
	if !ok || !reflect.DeepEqual(f, want) {
		t.Fatalf("%s: %v, want %v", what, err, want)
	}
	if !errors.Is(err, code) {
		t.Fatalf("%s: errors.Is does not find %v", what, code)
	}
}

// modelRight is the chapter's list, sentence by sentence.
func modelRight(p api.Place) bool {
	bounds := [][2]int{{p.Occur, 128}, {p.Field, 64}, {p.Rep, 32}, {p.Comp, 32}, {p.Sub, 16}}
	if p.Seg == "MSH" {
		bounds[0][1], bounds[1][1] = 1, 66
		if p.Field < 3 {
			bounds[2][1], bounds[3][1], bounds[4][1] = 1, 1, 1
		}
	}
	for _, b := range bounds {
		if b[0] < 1 || b[0] > b[1] {
			return false
		}
	}
	return regexp.MustCompile(`\A[A-Z][A-Z0-9]{2}\z`).MatchString(p.Seg)
}

var form = regexp.MustCompile(`\A([A-Z][A-Z0-9]{2})(?:\[([1-9][0-9]*)\])?-([1-9][0-9]*)(?:\[([1-9][0-9]*)\])?(?:\.([1-9][0-9]*)(?:\.([1-9][0-9]*))?)?\z`)

// rests are what may be put behind the beginning of a text to make a whole one of it.
var rests = []string{"", "AAA-1", "AA-1", "A-1", "-1", "1", "1]-1", "]-1", "1]", "]"}

func begins(text string) bool {
	return slices.ContainsFunc(rests, func(rest string) bool { return form.MatchString(text + rest) })
}

// modelParse tells a text's place, or the place of its first fault.
func modelParse(text string) (api.Place, int) {
	good := 0
	for good < len(text) && begins(text[:good+1]) {
		good++
	}
	for _, rest := range rests {
		parts := form.FindStringSubmatchIndex(text[:good] + rest)
		if parts == nil {
			continue
		}
		p := at((text[:good] + rest)[:3])
		for i, into := range []*int{&p.Occur, &p.Field, &p.Rep, &p.Comp, &p.Sub} {
			from, to := parts[4+2*i], parts[5+2*i]
			if from < 0 || from >= good {
				continue // it is not there, or the rest's
			}
			*into, _ = strconv.Atoi(text[from:min(to, good)])
			if !modelRight(p) {
				return api.Place{}, from
			}
		}
		if rest == "" && good == len(text) {
			return p, -1
		}
		break
	}
	return api.Place{}, good
}

func modelPrint(p api.Place) string {
	s := fmt.Sprintf("%s[%d]-%d[%d].%d.%d", p.Seg, p.Occur, p.Field, p.Rep, p.Comp, p.Sub)
	s = strings.ReplaceAll(s, "[1]", "")
	for range 2 {
		s = strings.TrimSuffix(s, ".1")
	}
	if p.Sub > 1 { // then Comp stays whatever it is
		s = strings.ReplaceAll(fmt.Sprintf("%s[%d]-%d[%d]", p.Seg, p.Occur, p.Field, p.Rep), "[1]", "") + fmt.Sprintf(".%d.%d", p.Comp, p.Sub)
	}
	return s
}

// spot is where a sub stands: a segment's number from 0 on, then numbers from 1 on in the lists.
type spot [5]int

// table is a message as the wire texts of its subs that are not empty.
type table struct {
	marks api.Marks
	names []string
	subs  map[spot]string
}

func tableOf(m api.Message) table {
	t := table{marks: m.Marks, subs: map[spot]string{}}
	for i, s := range m.Segs {
		t.names = append(t.names, s.Name)
		for f := range s.Fields {
			for r := range s.Fields[f].Reps {
				for c := range s.Fields[f].Reps[r].Comps {
					for u, sub := range s.Fields[f].Reps[r].Comps[c].Subs {
						t.put(spot{i, f + 1, r + 1, c + 1, u + 1}, sub)
					}
				}
			}
		}
	}
	return t
}

func (t table) put(s spot, sub string) {
	delete(t.subs, s)
	if sub != "" {
		t.subs[s] = sub
	}
}

func (t table) spotOf(p api.Place) (spot, bool) {
	n := 0
	for i, name := range t.names {
		if name == p.Seg {
			n++
		}
		if name == p.Seg && n == p.Occur {
			f := p.Field
			if name == "MSH" {
				f -= 2
			}
			return spot{i, f, p.Rep, p.Comp, p.Sub}, true
		}
	}
	return spot{}, false
}

func (t table) placeOf(s spot) api.Place {
	occur := 0
	for _, name := range t.names[:s[0]+1] {
		if name == t.names[s[0]] {
			occur++
		}
	}
	f := s[1]
	if s[0] == 0 {
		f += 2
	}
	return at(t.names[s[0]], occur, f, s[2], s[3], s[4])
}

func (t table) wire(p api.Place) (string, bool) {
	s, ok := t.spotOf(p)
	k := t.marks
	switch {
	case p.Seg == "MSH" && p.Field == 1:
		return string([]byte{k.Field}), true
	case p.Seg == "MSH" && p.Field == 2:
		return string([]byte{k.Comp, k.Rep, k.Esc, k.Sub}), true
	}
	return t.subs[s], ok
}

func (t table) plain(p api.Place) (string, bool) {
	w, ok := t.wire(p)
	if p.Seg == "MSH" && p.Field < 3 {
		return w, ok
	}
	text, err := esc.Unescape(t.marks, w)
	if err != nil {
		panic(err)
	}
	return text, ok
}

// spots are those of all subs, in the order in which they stand.
func (t table) spots() []spot {
	return slices.SortedFunc(maps.Keys(t.subs), func(a, b spot) int { return slices.Compare(a[:], b[:]) })
}

// text writes the message; from spot to spot it puts the marks in that are wanted.
func (t table) text() string {
	k := t.marks
	betweens := []byte{'\r', k.Field, k.Rep, k.Comp, k.Sub}
	lines := slices.Clone(t.names)
	lines[0] += string([]byte{k.Field, k.Comp, k.Rep, k.Esc, k.Sub})
	last := spot{-1}
	for _, s := range t.spots() {
		if s[0] != last[0] {
			last = spot{s[0], 0, 1, 1, 1}
		}
		for level := 1; level < 5; level++ {
			if s[level] != last[level] {
				lines[s[0]] += strings.Repeat(string(betweens[level:level+1]), s[level]-last[level])
				copy(last[level:], []int{s[level], 1, 1, 1}[:5-level])
			}
		}
		lines[s[0]] += t.subs[s]
	}
	return strings.Join(lines, "\r") + "\r"
}

func (t table) count(p api.Place) int {
	if p.Seg == "MSH" && p.Field < 3 {
		return 1
	}
	most := 0
	if s, ok := t.spotOf(p); ok {
		for o := range t.subs {
			if o[0] == s[0] && o[1] == s[1] {
				most = max(most, o[2])
			}
		}
	}
	return most
}

func (t table) without(number int) table {
	n := table{marks: t.marks, names: slices.Delete(slices.Clone(t.names), number, number+1), subs: map[spot]string{}}
	for s, sub := range t.subs {
		if s[0] == number {
			continue
		}
		if s[0] > number {
			s[0]--
		}
		n.subs[s] = sub
	}
	return n
}

// shape tells a tree as a text in which nil and empty lists are the same, and nothing else is.
func shape(m api.Message) string {
	s := fmt.Sprintf("%v", m.Marks)
	for _, seg := range m.Segs {
		s += fmt.Sprintf("\n%q", seg.Name)
		for _, f := range seg.Fields {
			s += " {"
			for _, r := range f.Reps {
				s += "("
				for _, c := range r.Comps {
					s += fmt.Sprintf("%q", c.Subs)
				}
				s += ")"
			}
			s += "}"
		}
	}
	return s
}

// is holds a message against a table: it is of the table's text, and normal.
func is(t *testing.T, what string, m api.Message, want table) {
	t.Helper()
	read, err := tree.Parse([]byte(want.text()))
	if err != nil {
		t.Fatalf("%s: the table's text %q: %v", what, want.text(), err)
	}
	if shape(m) != shape(read) {
		t.Fatalf("%s:\n%s\nwant\n%s", what, shape(m), shape(read))
	}
}

// wires are texts for a sub: plain ones, ones with escapes, ones that say nothing; now and then none.
func wires(k api.Marks) []string {
	e := string([]byte{k.Esc})
	return []string{"a", "b c", "1", "M\xc3\xbc", "xyz", e + "F" + e, "a" + e + "S" + e + "b", e + "X0D0A" + e, e + "H" + e, e + "N" + e, e + "Z1" + e, e + "E" + e + e + "T" + e, e + "X00" + e + "q"}
}

// list is a random one, now and then with empty elements, also at its end.
func list[E any](r *rand.Rand, most int, make1 func() E) []E {
	var made []E
	for range r.IntN(most + 1) {
		if r.IntN(4) == 0 {
			var empty E
			made = append(made, empty)
		} else {
			made = append(made, make1())
		}
	}
	return made
}

var names = []string{"PID", "OBX", "Z01", "FHS", "BHS"}

func randomMessage(r *rand.Rand) api.Message {
	m := api.Message{Marks: marksOf(pick(r, fives))}
	texts := wires(m.Marks)
	for i := range 1 + r.IntN(5) {
		s := api.Seg{Name: "MSH"}
		if i > 0 {
			s.Name = pick(r, names)
		}
		s.Fields = list(r, 4, func() api.Field {
			return api.Field{Reps: list(r, 3, func() api.Rep {
				return api.Rep{Comps: list(r, 3, func() api.Comp {
					return api.Comp{Subs: list(r, 3, func() string { return pick(r, texts) })}
				})}
			})}
		})
		m.Segs = append(m.Segs, s)
	}
	return m
}

func randomPlace(r *rand.Rand, m api.Message) api.Place {
	p := at(pick(r, m.Segs).Name, 1+r.IntN(2), 1+r.IntN(6), 1+r.IntN(3), 1+r.IntN(3), 1+r.IntN(3))
	far := []*int{&p.Occur, &p.Field, &p.Rep, &p.Comp, &p.Sub}
	if r.IntN(6) == 0 {
		i := r.IntN(5)
		*far[i] = []int{128, 64, 32, 32, 16}[i]
	}
	if r.IntN(9) == 0 {
		p.Seg = pick(r, []string{"NK1", "PID", "MSH"})
	}
	if p.Seg == "MSH" {
		p.Occur = 1
		if p.Field < 3 {
			p.Rep, p.Comp, p.Sub = 1, 1, 1
		}
	}
	return p
}

// around are right places in and just outside of a small message, and the outermost of all.
func around() []api.Place {
	var all []api.Place
	for _, seg := range append([]string{"MSH", "NK1"}, names[:3]...) {
		for _, o := range []int{1, 2, 3, 128} {
			for _, f := range []int{1, 2, 3, 4, 5, 6, 64, 66} {
				for _, r := range []int{1, 2, 3, 32} {
					for _, c := range []int{1, 2, 3, 32} {
						for _, u := range []int{1, 2, 3, 16} {
							if p := at(seg, o, f, r, c, u); modelRight(p) {
								all = append(all, p)
							}
						}
					}
				}
			}
		}
	}
	return all
}
