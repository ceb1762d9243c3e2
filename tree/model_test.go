package tree

import (
	"errors"
	"fmt"
	"math/rand/v2"
	"reflect"
	"regexp"
	"slices"
	"strings"
	"testing"

	"courier/api"
	"courier/esc"
)

// The chapter's rules a second time, by cutting texts up and looking for all faults at once, to hold the package's answers against.

const head = "MSH|^~\\&"

var common = marksOf("|^~\\&")
var other = marksOf("#$%!?")

// fives are Marks among which are those that stand in escapes, and the first and last of all marks.
var fives = []string{"|^~\\&", "#$%!?", ".+-/:", "&\\~^|", "!\"#$%", "{}[].", "~`_@;", "^|\\~-", "+^~\\&"}

func marksOf(five string) api.Marks {
	return api.Marks{Field: five[0], Comp: five[1], Rep: five[2], Esc: five[3], Sub: five[4]}
}

func fiveOf(m api.Marks) string {
	return string([]byte{m.Field, m.Comp, m.Rep, m.Esc, m.Sub})
}

func dice(seed uint64) *rand.Rand { return rand.New(rand.NewPCG(seed, 6)) }

func pick[E any](r *rand.Rand, list []E) E { return list[r.IntN(len(list))] }

// shape tells a tree as a text in which nil and empty lists are the same, and nothing else is.
func shape(m api.Message) string {
	s := fmt.Sprintf("%q", fiveOf(m.Marks))
	for _, seg := range m.Segs {
		s += "\n" + segShape(seg)
	}
	return s
}

func segShape(seg api.Seg) string {
	s := fmt.Sprintf("%q", seg.Name)
	for _, f := range seg.Fields {
		s += " {"
		for _, r := range f.Reps {
			s += "("
			for _, c := range r.Comps {
				s += fmt.Sprintf("%q", c.Subs)
			}
			s += ")"
		}
		s += "}"
	}
	return s
}

// under is the fault of layer 5 that must stand under one of this layer.
func under(err error) *api.Fault {
	var f *api.Fault
	if !errors.As(err, &f) {
		return nil
	}
	return f
}

// fits holds an error against the fault that it must be, all of it.
func fits(err error, want *api.Fault) bool {
	if want == nil || err == nil {
		return want == nil && err == nil
	}
	f, ok := err.(*api.Fault)
	if !ok || f.Layer != "tree" || f.At != want.At || f.Code != want.Code || !reflect.DeepEqual(f.Under, want.Under) {
		return false
	}
	inner := f.Code
	if want.Under != nil {
		inner = under(want.Under).Code
	}
	return errors.Is(err, inner) && (inner == f.Code || !errors.Is(err, f.Code))
}

func refused(t *testing.T, what string, err error, code api.Errno, at int, below error) {
	t.Helper()
	if want := (&api.Fault{Layer: "tree", At: at, Code: code, Under: below}); !fits(err, want) {
		t.Fatalf("%s: %v, want %v", what, err, want)
	}
}

// rank is the order in which the chapter names faults at one place.
var rank = []api.Errno{api.ErrMany, api.ErrSegName, api.ErrSecond, api.ErrWire}

// modelParse tells the first fault of a text.
func modelParse(text string) *api.Fault {
	if len(text) > api.MaxMessage {
		return &api.Fault{Code: api.ErrLong}
	}
	k, err := esc.Read(text)
	if err != nil {
		return &api.Fault{At: under(err).At, Code: api.ErrNoMSH, Under: err}
	}
	if text[0] != 'M' {
		return &api.Fault{Code: api.ErrNoMSH}
	}
	var all []*api.Fault
	add := func(at int, code api.Errno, err error) {
		all = append(all, &api.Fault{At: at, Code: code, Under: err})
	}
	at := 0
	for i, line := range strings.Split(strings.TrimSuffix(text, "\r"), "\r") {
		if i >= 128 {
			add(at, api.ErrMany, nil)
		}
		rest := 8
		if i > 0 {
			rest = 3
			lineFaults(k, line, at, add)
		}
		if len(line) > rest && line[rest] == k.Field {
			level(k, line[rest+1:], at+rest+1, 0, add)
		}
		at += len(line) + 1
	}
	if len(all) == 0 {
		return nil
	}
	return slices.MinFunc(all, func(a, b *api.Fault) int {
		if a.At != b.At {
			return a.At - b.At
		}
		return slices.Index(rank, a.Code) - slices.Index(rank, b.Code)
	})
}

var beginnings = []*regexp.Regexp{regexp.MustCompile(`^[A-Z]`), regexp.MustCompile(`^[A-Z][A-Z0-9]`), regexp.MustCompile(`^[A-Z][A-Z0-9]{2}`)}

func lineFaults(k api.Marks, line string, at int, add func(int, api.Errno, error)) {
	for i, b := range beginnings {
		if !b.MatchString(line) {
			add(at+i, api.ErrSegName, nil)
			return
		}
	}
	if line[:3] == "MSH" {
		add(at, api.ErrSecond, nil)
	}
	if len(line) > 3 && line[3] != k.Field {
		add(at+3, api.ErrSegName, nil)
	}
}

// level cuts a text into the things of a level (0: fields) and these into theirs.
func level(k api.Marks, text string, at int, depth int, add func(int, api.Errno, error)) {
	if depth == 4 {
		if _, err := esc.Split(k, text); err != nil {
			add(at+under(err).At, api.ErrWire, err)
		}
		return
	}
	bounds := []int{64, 32, 32, 16}
	for i, part := range strings.Split(text, string([]byte{k.Field, k.Rep, k.Comp, k.Sub}[depth:depth+1])) {
		if i >= bounds[depth] {
			add(at, api.ErrMany, nil)
		}
		level(k, part, at, depth+1, add)
		at += len(part) + 1
	}
}

// modelNormal takes the empty ends out of a text that is a message, by taking marks off its ends.
func modelNormal(text string) string {
	k := marksOf(text[3:8])
	out := ""
	for i, line := range strings.Split(strings.TrimSuffix(text, "\r"), "\r") {
		ahead := 3
		if i == 0 {
			ahead = 8
		}
		out += line[:ahead] + trimmed(line[ahead:], string([]byte{k.Field, k.Rep, k.Comp, k.Sub})) + "\r"
	}
	return out
}

func trimmed(text string, marks string) string {
	if marks == "" {
		return text
	}
	parts := strings.Split(text, marks[:1])
	for i := range parts {
		parts[i] = trimmed(parts[i], marks[1:])
	}
	return strings.TrimRight(strings.Join(parts, marks[:1]), marks[:1])
}

// modelTree reads a text that is a message without empty ends.
func modelTree(text string) api.Message {
	k := marksOf(text[3:8])
	m := api.Message{Marks: k}
	for i, line := range strings.Split(strings.TrimSuffix(text, "\r"), "\r") {
		ahead := 3
		if i == 0 {
			ahead = 8
		}
		s := api.Seg{Name: line[:3]}
		if len(line) > ahead {
			s.Fields = cut(line[ahead+1:], k.Field, func(text string) api.Field {
				return api.Field{Reps: cut(text, k.Rep, func(text string) api.Rep {
					return api.Rep{Comps: cut(text, k.Comp, func(text string) api.Comp {
						return api.Comp{Subs: cut(text, k.Sub, strings.Clone)}
					})}
				})}
			})
		}
		m.Segs = append(m.Segs, s)
	}
	return m
}

func cut[E any](text string, mark byte, read func(string) E) []E {
	var list []E
	if text == "" {
		return nil
	}
	for _, part := range strings.Split(text, string([]byte{mark})) {
		list = append(list, read(part))
	}
	return list
}

// modelValid tells the place of the first fault of a tree; false if there is none.
func modelValid(m api.Message) ([]int, bool) {
	if esc.Valid(m.Marks) != nil || len(m.Segs) == 0 {
		return nil, true
	}
	if len(m.Segs) > 128 {
		return []int{128}, true
	}
	name := regexp.MustCompile(`^[A-Z][A-Z0-9][A-Z0-9]$`)
	for i, s := range m.Segs {
		if i == 0 && s.Name != "MSH" || i > 0 && s.Name == "MSH" || !name.MatchString(s.Name) || len(s.Name) != 3 {
			return []int{i}, true
		}
		if len(s.Fields) > 64 {
			return []int{i, 64}, true
		}
		for j, f := range s.Fields {
			if at, found := fieldWrong(m.Marks, f); found {
				return append([]int{i, j}, at...), true
			}
		}
	}
	return nil, false
}

func fieldWrong(k api.Marks, f api.Field) ([]int, bool) {
	if len(f.Reps) > 32 {
		return []int{32}, true
	}
	for r, rep := range f.Reps {
		if len(rep.Comps) > 32 {
			return []int{r, 32}, true
		}
		for c, comp := range rep.Comps {
			if len(comp.Subs) > 16 {
				return []int{r, c, 16}, true
			}
			for s, sub := range comp.Subs {
				if _, err := esc.Split(k, sub); err != nil {
					return []int{r, c, s}, true
				}
			}
		}
	}
	return nil, false
}

// modelTrim takes the empty ends out of a tree.
func modelTrim(m api.Message) api.Message {
	n := api.Message{Marks: m.Marks}
	for _, s := range m.Segs {
		seg := api.Seg{Name: s.Name}
		for _, f := range s.Fields {
			var field api.Field
			for _, r := range f.Reps {
				var rep api.Rep
				for _, c := range r.Comps {
					subs := slices.Clone(c.Subs)
					for len(subs) > 0 && subs[len(subs)-1] == "" {
						subs = subs[:len(subs)-1]
					}
					rep.Comps = append(rep.Comps, api.Comp{Subs: subs})
				}
				for len(rep.Comps) > 0 && len(rep.Comps[len(rep.Comps)-1].Subs) == 0 {
					rep.Comps = rep.Comps[:len(rep.Comps)-1]
				}
				field.Reps = append(field.Reps, rep)
			}
			for len(field.Reps) > 0 && len(field.Reps[len(field.Reps)-1].Comps) == 0 {
				field.Reps = field.Reps[:len(field.Reps)-1]
			}
			seg.Fields = append(seg.Fields, field)
		}
		for len(seg.Fields) > 0 && len(seg.Fields[len(seg.Fields)-1].Reps) == 0 {
			seg.Fields = seg.Fields[:len(seg.Fields)-1]
		}
		n.Segs = append(n.Segs, seg)
	}
	return n
}

// modelText writes a tree as it stands, empty ends too.
func modelText(m api.Message) string {
	k := m.Marks
	out := ""
	for i, s := range m.Segs {
		out += s.Name
		if i == 0 {
			out += fiveOf(k)
		}
		for _, f := range s.Fields {
			out += string([]byte{k.Field}) + glue(f.Reps, k.Rep, func(r api.Rep) string {
				return glue(r.Comps, k.Comp, func(c api.Comp) string { return strings.Join(c.Subs, string([]byte{k.Sub})) })
			})
		}
		out += "\r"
	}
	return out
}

func glue[E any](list []E, mark byte, write func(E) string) string {
	var parts []string
	for _, e := range list {
		parts = append(parts, write(e))
	}
	return strings.Join(parts, string([]byte{mark}))
}

// someTree makes a tree of which most may be; wrong is how many of a hundred names and subs are none.
func someTree(r *rand.Rand, k api.Marks, wrong int) api.Message {
	m := api.Message{Marks: k, Segs: []api.Seg{{Name: "MSH"}}}
	for range r.IntN(5) {
		m.Segs = append(m.Segs, api.Seg{Name: pick(r, []string{"PID", "NK1", "OBX", "ZZ9", "A00", "FHS", "BTS"})})
	}
	for i := range m.Segs {
		if r.IntN(100) < wrong {
			m.Segs[i].Name = pick(r, []string{"", "MSH", "P", "PI", "PIDX", "pid", "1ID", "PI|", "P\rD", "PID"})
		}
		m.Segs[i].Fields = some(r, func() api.Field {
			return api.Field{Reps: some(r, func() api.Rep {
				return api.Rep{Comps: some(r, func() api.Comp {
					return api.Comp{Subs: some(r, func() string { return someSub(r, k, wrong) })}
				})}
			})}
		})
	}
	return m
}

func some[E any](r *rand.Rand, make1 func() E) []E {
	list := make([]E, 0, 3)
	for range r.IntN(4) {
		list = append(list, make1())
	}
	if len(list) == 0 && r.IntN(2) == 0 {
		return nil
	}
	return list
}

var plains = []string{"", "", "", "a", "b c", "\"\"", "\x80\xff", "\xc3\xa4", "!#$%?", "|^~\\&", ".+-/:", "{}[]", "0", "a\r\n", "\x7f"}
var bodies = []string{"H", "N", "Z1a", "X00FF", "C1234", "M123456", ".br", ".sp3", ".in+4", ".ti-5", "F", "S", "T", "R", "E"}

// someSub makes a sub by escaping, or by an escape, which may be none where a mark stands in it.
func someSub(r *rand.Rand, k api.Marks, wrong int) string {
	if r.IntN(100) < wrong {
		return pick(r, []string{"\t", "a" + string([]byte{k.Field}), string([]byte{k.Esc}), string([]byte{k.Esc, 'Q', k.Esc}), "a\r", string([]byte{k.Sub}), strings.Repeat("x", 8193)})
	}
	if r.IntN(4) == 0 {
		e := string([]byte{k.Esc})
		sub := "x" + e + pick(r, bodies) + e
		if _, err := esc.Split(k, sub); err == nil {
			return sub
		}
	}
	sub, _ := esc.Escape(k, pick(r, plains))
	return sub
}
