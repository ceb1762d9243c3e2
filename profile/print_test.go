package profile

import (
	"fmt"
	"math/rand"
	"slices"
	"strings"
	"testing"

	"courier/api"
)

// P902 and P903: Print, Structs, Segs and Find.

func TestP902Example(t *testing.T) {
	want := "table 0001 = F M O U ;\nsegment PID =\n  3 CX R max 4 ;\n  8 IS O in 0001 ;\nend\nmessage ADT A01 = MSH EVN PID [ PD1 ] { NK1 } end\n"
	if got := parsed(t, example).Print(); got != want {
		t.Errorf("Print() = %q, want %q", got, want)
	}
}

func TestP902Forms(t *testing.T) {
	for text, want := range map[string]string{
		"":     "",
		"# x":  "",
		" \n ": "",
		"table 0002=b a;table 0001=B A a _ . - 0 Z z 10 9;": "table 0001 = - . 0 10 9 A B Z _ a z ;\ntable 0002 = a b ;\n",
		"table 9999=A;table 0999=A;table 1000=A;":           "table 0999 = A ;\ntable 1000 = A ;\ntable 9999 = A ;\n",
		"segment PID=end": "segment PID =\nend\n",
		"segment ZAB=end segment PID=end segment PI1=end segment MSH=end":             "segment MSH =\nend\nsegment PI1 =\nend\nsegment PID =\nend\nsegment ZAB =\nend\n",
		"segment PID=1 ST R max 1;2 ST O max 2;9 CX X len 1;10 TS O len 8192;end":     "segment PID =\n  1 ST R ;\n  2 ST O max 2 ;\n  9 CX X len 1 ;\n  10 TS O len 8192 ;\nend\n",
		"table 0001=A;segment MSH=3 ST R max 32 len 7 in 0001;66 HD O in 0001;end":    "table 0001 = A ;\nsegment MSH =\n  3 ST R max 32 len 7 in 0001 ;\n  66 HD O in 0001 ;\nend\n",
		"message B A=MSH end message A B C=MSH PID end message A B=MSH end":           "message B A = MSH end\nmessage A B C = MSH PID end\nmessage A B = MSH end\n",
		"message A B=MSH[]<|><PID||{NK1}>[{[OBX]EVN}]end":                             "message A B = MSH [ ] < | > < PID | | { NK1 } > [ { [ OBX ] EVN } ] end\n",
		"message A B=MSH end segment PID=end table 0001=A;message A C=MSH end":        "table 0001 = A ;\nsegment PID =\nend\nmessage A B = MSH end\nmessage A C = MSH end\n",
		"message A B=MSH<<PID|NK1>|<OBX|<EVN|A00>>>{{{B00}}}#\nend#":                  "message A B = MSH < < PID | NK1 > | < OBX | < EVN | A00 > > > { { { B00 } } } end\n",
		"table 0001=x;segment PID=3 ST O max 1 len 1 in 0001;end message A B=MSH end": "table 0001 = x ;\nsegment PID =\n  3 ST O len 1 in 0001 ;\nend\nmessage A B = MSH end\n",
	} {
		p := parsed(t, text)
		if got := p.Print(); got != want || p.Print() != want {
			t.Errorf("Print of %q: %q, want %q", text, got, want)
		}
		if got := parsed(t, want).Print(); got != want {
			t.Errorf("Print of what Print wrote of %q: %q", text, got)
		}
	}
}

// TestP902Again: Parse of Print says the same, whatever the order in which the definitions stood.
func TestP902Again(t *testing.T) {
	rnd := rand.New(rand.NewSource(902))
	for range 5000 {
		text := joined(rnd, randomWords(rnd))
		want, no := modelParse(text)
		if no != nil {
			continue
		}
		p := parsed(t, text)
		q := parsed(t, p.Print())
		says(t, p, want)
		says(t, q, want)
		for i, h := range want.heads {
			for range 20 {
				names := randomNames(rnd)
				n, ok := p.Fits(i, names)
				if m, same := q.Fits(i, names); n != m || ok != same {
					t.Fatalf("Fits(%v) of %v: %d, %v, behind Print %d, %v", names, h, n, ok, m, same)
				}
			}
		}
	}
}

// TestP902Long: what is printed may be longer than what may be read.
func TestP902Long(t *testing.T) {
	var b strings.Builder
	for i := range 60 {
		fmt.Fprintf(&b, "message A B%d=MSH%send ", i, strings.Repeat("[]", 240))
	}
	p := parsed(t, b.String())
	text := p.Print()
	if want, _ := modelParse(b.String()); text != want.print() || len(text) <= api.MaxProfile {
		t.Fatalf("Print has %d bytes", len(text))
	}
	if _, err := Parse(text); err == nil || faultOf(t, err) != (refusal{api.ErrLong, 0}) {
		t.Errorf("Parse of %d bytes: %v", len(text), err)
	}
}

func TestP902Zero(t *testing.T) {
	for _, p := range []*Profile{nil, {}, new(Profile)} {
		if p.Print() != "" {
			t.Errorf("Print of none: %q", p.Print())
		}
	}
}

func TestP903Lists(t *testing.T) {
	p := parsed(t, example)
	if got := p.Structs(); !slices.Equal(got, []api.Struct{{Code: "ADT", Event: "A01"}}) {
		t.Errorf("Structs() = %v", got)
	}
	if got := p.Segs(); !slices.Equal(got, []string{"PID"}) {
		t.Errorf("Segs() = %v", got)
	}
	p = parsed(t, "segment ZAB = end message B C = MSH end segment MSH = end message A B D = MSH end segment A00 = end message A B = MSH PID end")
	if got := p.Structs(); !slices.Equal(got, []api.Struct{{Code: "B", Event: "C"}, {Code: "A", Event: "B", Structure: "D"}, {Code: "A", Event: "B"}}) {
		t.Errorf("Structs() = %v", got)
	}
	if got := p.Segs(); !slices.Equal(got, []string{"A00", "MSH", "ZAB"}) {
		t.Errorf("Segs() = %v", got)
	}
	if p := parsed(t, ""); len(p.Structs()) != 0 || len(p.Segs()) != 0 {
		t.Errorf("of an empty text: %v, %v", p.Structs(), p.Segs())
	}
}

func TestP903Find(t *testing.T) {
	p := parsed(t, "message A B C = MSH end message A B = MSH end message A B D = MSH end message A C = MSH end message B B C = MSH end")
	for _, x := range []struct {
		code, event, structure string
		n                      int
	}{
		{"A", "B", "", 0}, {"A", "B", "C", 0}, {"A", "B", "D", 2}, {"A", "C", "", 3}, {"B", "B", "", 4}, {"B", "B", "C", 4},
		{"A", "B", "E", -1}, {"A", "C", "C", -1}, {"B", "C", "", -1}, {"", "", "", -1}, {"A", "", "", -1}, {"", "B", "", -1}, {"", "B", "C", -1},
		{"a", "B", "", -1}, {"A", "b", "", -1}, {"A", "B", "c", -1}, {"A ", "B", "", -1}, {"A", "B", " ", -1}, {"A", "B", "CC", -1}, {"AB", "", "C", -1},
	} {
		if n, ok := p.Find(x.code, x.event, x.structure); n != x.n || ok != (x.n >= 0) {
			t.Errorf("Find(%q, %q, %q) = %d, %v, want %d", x.code, x.event, x.structure, n, ok, x.n)
		}
	}
	// The first of those with two codes may stand behind one without the third.
	p = parsed(t, "message A B = MSH end message A B C = MSH end")
	if n, ok := p.Find("A", "B", ""); n != 0 || !ok {
		t.Errorf("Find(A, B) = %d, %v", n, ok)
	}
	if n, ok := p.Find("A", "B", "C"); n != 1 || !ok {
		t.Errorf("Find(A, B, C) = %d, %v", n, ok)
	}
}

// TestP903Full: a profile with as many messages and segments as may be.
func TestP903Full(t *testing.T) {
	var b strings.Builder
	var names []string
	for i := range 64 {
		fmt.Fprintf(&b, "message A B S%d = MSH end ", 63-i)
	}
	for i := range 128 {
		name := fmt.Sprintf("Q%02X", (i*37)%128)
		fmt.Fprintf(&b, "segment %s = end ", name)
		names = append(names, name)
	}
	p := parsed(t, b.String())
	slices.Sort(names)
	if !slices.Equal(p.Segs(), names) || len(p.Structs()) != 64 {
		t.Errorf("%v, %v", p.Segs(), p.Structs())
	}
	for i, s := range p.Structs() {
		if n, ok := p.Find(s.Code, s.Event, s.Structure); n != i || !ok {
			t.Errorf("Find(%v) = %d, %v, want %d", s, n, ok, i)
		}
	}
}

func TestP903Zero(t *testing.T) {
	for _, p := range []*Profile{nil, {}, new(Profile)} {
		if len(p.Structs()) != 0 || len(p.Segs()) != 0 {
			t.Errorf("of none: %v, %v", p.Structs(), p.Segs())
		}
		for _, s := range []string{"", "A"} {
			if n, ok := p.Find(s, s, s); n != -1 || ok {
				t.Errorf("Find of none: %d, %v", n, ok)
			}
		}
	}
}
