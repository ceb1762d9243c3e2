package profile

import (
	"math/rand"
	"slices"
	"strings"
	"testing"
	"time"
)

// P904: which names may follow each other. The model is the chapter's derivation: all words of a group, and all beginnings of words, up to a length.

// lang has a group's words, and what its words begin with, of at most size names; each name ends with a blank.
type lang struct{ words, begins map[string]bool }

func nothing() lang { return lang{map[string]bool{"": true}, map[string]bool{"": true}} }

// chain is all u + v that are short enough.
func chain(into, us, vs map[string]bool, size int) {
	for u := range us {
		for v := range vs {
			if len(u)+len(v) <= 4*size {
				into[u+v] = true
			}
		}
	}
}

func follow(a, b lang, size int) lang {
	l := lang{map[string]bool{}, map[string]bool{}}
	chain(l.words, a.words, b.words, size)
	chain(l.begins, a.words, b.begins, size)
	chain(l.begins, a.begins, map[string]bool{"": true}, size)
	return l
}

func either(a, b lang) lang {
	l := lang{map[string]bool{}, map[string]bool{}}
	for _, x := range []lang{a, b} {
		for w := range x.words {
			l.words[w] = true
		}
		for w := range x.begins {
			l.begins[w] = true
		}
	}
	return l
}

func again(a lang, size int) lang {
	all := a
	for {
		more := either(all, follow(all, a, size))
		if len(more.words) == len(all.words) && len(more.begins) == len(all.begins) {
			return all
		}
		all = more
	}
}

// derive reads a group's words up to what closes it.
func derive(words []string, size int) (lang, []string) {
	l := nothing()
	for len(words) > 0 {
		var item lang
		switch w := words[0]; w {
		case "]", "}", "|", ">":
			return l, words
		case "[":
			item, words = derive(words[1:], size)
			item = either(item, nothing())
		case "{":
			item, words = derive(words[1:], size)
			item = again(item, size)
		case "<":
			item, words = derive(words[1:], size)
			for words[0] == "|" {
				var other lang
				other, words = derive(words[1:], size)
				item = either(item, other)
			}
		default:
			item = lang{map[string]bool{w + " ": true}, map[string]bool{"": true, w + " ": true}}
		}
		l, words = follow(l, item, size), words[1:]
	}
	return l, nil
}

// modelFits is Fits by the lists.
func (l lang) fits(names []string) (int, bool) {
	text := ""
	for i, name := range names {
		if strings.HasPrefix(name, "Z") {
			continue
		}
		text += name + " "
		if !l.begins[text] {
			return i, false
		}
	}
	return len(names), l.words[text]
}

var someNames = []string{"PID", "NK1", "OBX", "EVN", "ZAB"}

// randomNames are names, most often behind an MSH.
func randomNames(rnd *rand.Rand) []string {
	var names []string
	if rnd.Intn(10) > 0 {
		names = append(names, "MSH")
	}
	for range rnd.Intn(6) {
		names = append(names, pick(rnd, someNames))
	}
	return names
}

// allNames goes over all lists of at most so many names.
func allNames(most int, each func(names []string)) {
	var names []string
	var grow func(left int)
	grow = func(left int) {
		each(names)
		if left == 0 {
			return
		}
		for _, name := range someNames {
			names = append(names, name)
			grow(left - 1)
			names = names[:len(names)-1]
		}
	}
	grow(most)
}

// fitsAs holds Fits of a group against the model, for all short lists behind an MSH and without one.
func fitsAs(t *testing.T, words []string, most int) {
	t.Helper()
	body := append([]string{"MSH"}, words...)
	p := parsed(t, "message A B = "+strings.Join(body, " ")+" end")
	l, _ := derive(body, most+1)
	hold := func(names []string) {
		n, ok := p.Fits(0, names)
		if wantN, wantOK := l.fits(names); n != wantN || ok != wantOK {
			t.Fatalf("%v: Fits(%v) = %d, %v, want %d, %v", body, names, n, ok, wantN, wantOK)
		}
	}
	allNames(most, func(names []string) { hold(append([]string{"MSH"}, names...)) })
	allNames(2, hold)
	allNames(2, func(names []string) { hold(append([]string{"ZAB", "MSH", "ZZ1"}, names...)) })
}

func TestP904Examples(t *testing.T) {
	p := parsed(t, example)
	for _, x := range []struct {
		names string
		n     int
		ok    bool
	}{
		{"MSH EVN PID NK1", 4, true}, {"MSH EVN PID PD1 NK1 NK1", 6, true}, {"MSH PID", 1, false}, {"MSH EVN PID", 3, false}, {"MSH ZAB EVN PID NK1 PD1", 5, false},
		{"", 0, false}, {"MSH", 1, false}, {"EVN", 0, false}, {"ZAB", 1, false}, {"ZAB EVN", 1, false}, {"ZAB ZAB MSH", 3, false}, {"MSH MSH", 1, false},
		{"MSH EVN PID NK1 ZAB", 5, true}, {"ZAA MSH ZAB EVN ZAC PID ZAD NK1 ZAE NK1 ZAF", 11, true}, {"MSH EVN PID NK1 EVN NK1", 4, false}, {"MSH EVN PID PD1 PD1", 4, false},
		{"MSH EVN PID ZAB", 4, false}, {"MSH Z", 2, false}, {"MSH Zab EVN PID NK1", 5, true}, {"MSH zab", 1, false}, {"msh", 0, false}, {"MSH EV", 1, false}, {"MSH EVNX", 1, false},
	} {
		if n, ok := p.Fits(0, strings.Fields(x.names)); n != x.n || ok != x.ok {
			t.Errorf("Fits(%s) = %d, %v, want %d, %v", x.names, n, ok, x.n, x.ok)
		}
	}
	p = parsed(t, "message A B = MSH AZ1 [ NZZ ] end")
	for names, n := range map[string]int{"MSH AZ1": 2, "MSH AZ1 NZZ": 3, "MSH Z1Z AZ1 ZNZ NZZ ZZZ": 6} {
		if got, ok := p.Fits(0, strings.Fields(names)); got != n || !ok {
			t.Errorf("Fits(%s) = %d, %v, want %d", names, got, ok, n)
		}
	}
	if n, ok := p.Fits(0, []string{"MSH", "NZZ"}); n != 1 || ok {
		t.Errorf("Fits(MSH NZZ) = %d, %v", n, ok)
	}
	p = parsed(t, example)
	// A name without a byte begins with no Z, and no item has it.
	if n, ok := p.Fits(0, []string{"MSH", "", "EVN"}); n != 1 || ok {
		t.Errorf("Fits of an empty name: %d, %v", n, ok)
	}
	if n, ok := p.Fits(0, []string{""}); n != 0 || ok {
		t.Errorf("Fits of an empty name: %d, %v", n, ok)
	}
}

func TestP904Groups(t *testing.T) {
	for _, g := range []string{
		"", "PID", "PID PID", "[ PID ]", "{ PID }", "< PID | NK1 >", "[ ]", "< | >", "< PID | >", "[ PID ] PID", "[ PID ] [ PID ]", "{ PID } PID", "{ PID } { PID }", "{ PID [ PID ] }",
		"{ { PID } NK1 }", "{ { { PID } } }", "{ { PID NK1 } { OBX } }", "[ { PID } ] NK1", "{ [ PID ] NK1 }", "{ NK1 [ PID ] }", "{ [ PID ] NK1 [ OBX ] }", "[ [ [ PID ] NK1 ] OBX ]",
		"< PID NK1 | PID OBX >", "< PID | PID NK1 | PID NK1 OBX >", "{ < PID | PID NK1 > }", "{ < { PID } NK1 | { PID } OBX > }", "< [ PID ] | { NK1 } > OBX", "{ < PID | NK1 > < OBX | > }",
		"< PID | { NK1 [ OBX ] } | > { { EVN } PID }", "{ PID } [ { PID } ] < PID | >", "{ PID { NK1 { OBX } } }", "[ { < [ PID ] NK1 | OBX { PID } > } ] EVN", "{ < PID | { < NK1 | { OBX PID } > } > } EVN",
		"[ PID ] [ NK1 ] [ OBX ] [ PID ]", "{ [ PID ] { [ NK1 ] { [ OBX ] EVN } } }", "[ ] PID [ [ ] ] < | | > NK1", "{ PID < | NK1 > }", "{ < | NK1 > PID }", "{ < | NK1 > PID < | OBX > } PID",
	} {
		fitsAs(t, strings.Fields(g), 5)
	}
}

func TestP904Model(t *testing.T) {
	rnd := rand.New(rand.NewSource(904))
	for range 400 {
		words := randomGroup(rnd, []string{"PID", "NK1", "OBX"}, 3, 3)
		if _, no := modelParse("message A B = MSH " + strings.Join(words, " ") + " end"); no == nil {
			fitsAs(t, words, 4)
		}
	}
}

// TestP904Which: each message has its own group, and other numbers have none.
func TestP904Which(t *testing.T) {
	p := parsed(t, "message A B = MSH PID end message A C = MSH NK1 end message A D = MSH end")
	for which, words := range []string{"MSH PID", "MSH NK1", "MSH"} {
		for other, names := range []string{"MSH PID", "MSH NK1", "MSH"} {
			if n, ok := p.Fits(which, strings.Fields(names)); ok != (which == other) || ok && n != len(strings.Fields(words)) {
				t.Errorf("Fits(%d, %s) = %d, %v", which, names, n, ok)
			}
		}
	}
	for _, which := range []int{-1, 3, 4, 64, 1 << 40, -1 << 63, 1<<63 - 1} {
		for _, names := range [][]string{nil, {}, {"MSH"}, {"ZAB"}, {"MSH", "PID"}} {
			for _, q := range []*Profile{p, parsed(t, ""), nil, {}} {
				if n, ok := q.Fits(which, names); n != 0 || ok {
					t.Errorf("Fits(%d, %v) = %d, %v", which, names, n, ok)
				}
			}
		}
	}
	for _, q := range []*Profile{parsed(t, "segment PID = end"), nil, {}} {
		if n, ok := q.Fits(0, []string{"MSH", "PID"}); n != 0 || ok {
			t.Errorf("Fits of a profile without a message: %d, %v", n, ok)
		}
	}
	for _, names := range [][]string{nil, {}} {
		if n, ok := p.Fits(0, names); n != 0 || ok {
			t.Errorf("Fits of no names: %d, %v", n, ok)
		}
	}
}

// TestP907Steps: groups of which a plain search would try each way are gone through in steps that grow with names times items.
func TestP907Steps(t *testing.T) {
	begin := time.Now()
	for _, g := range []string{
		strings.Repeat("{ ", 16) + strings.Repeat("PID ", 400) + strings.Repeat("} ", 16),
		strings.Repeat("[ PID ", 16) + strings.Repeat("] ", 16) + strings.Repeat("[ { PID } ] ", 150),
		strings.Repeat("[ PID ] ", 255),
		strings.Repeat("{ < ", 8) + "PID " + strings.Repeat("| PID PID > [ PID ] } ", 8) + strings.Repeat("[ { PID } ] ", 100),
		"{ " + strings.Repeat("[ { PID } ] ", 127) + "{ PID } } " + strings.Repeat("< PID | [ PID ] > ", 30),
	} {
		p := parsed(t, "message A B = MSH "+g+"end")
		names := slices.Concat([]string{"MSH"}, slices.Repeat([]string{"PID", "ZAB"}, 1500))
		if n, _ := p.Fits(0, names); n > len(names) {
			t.Errorf("Fits: %d", n)
		}
		if n, ok := p.Fits(0, append(names[:120:120], "NK1")); n > 120 || ok {
			t.Errorf("Fits with a name that no item has: %d, %v", n, ok)
		}
	}
	if spent := time.Since(begin); spent > 30*time.Second {
		t.Errorf("it took %v", spent)
	}
}
