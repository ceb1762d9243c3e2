package ack

import (
	"fmt"
	"math/rand"
	"strings"
	"testing"

	"courier/api"
	"courier/tree"
	"courier/types"
)

const exampleText = "MSH|^~\\&|LAB||ADT||20240229120000||ACK^A01^ACK|C7|P|2.5.1|||NE|NE\rMSA|CE|7||12\rERR||MSH^1^13^1|207^^HL70357|E\r"

func TestP1003Examples(t *testing.T) {
	const head = "MSH|^~\\&|LAB||ADT||20240229120000||ACK^A01^ACK|C7|P|2.5.1|||NE|NE\r"
	const tail = "MSA|CE|7||12\rERR||MSH^1^13^1|207^^HL70357|E\r"
	hash := api.Marks{Field: '.', Comp: '-', Rep: '_', Esc: '+', Sub: '"'}
	for _, c := range []struct {
		turn change
		want string
	}{
		{func(a *api.Ack) {}, exampleText},
		{func(a *api.Ack) { a.Event = "" }, "MSH|^~\\&|LAB||ADT||20240229120000||ACK|C7|P|2.5.1|||NE|NE\r" + tail},
		{func(a *api.Ack) { a.Enhanced = false }, "MSH|^~\\&|LAB||ADT||20240229120000||ACK^A01^ACK|C7|P|2.5.1\r" + tail},
		{func(a *api.Ack) { a.Code, a.Errors = "AA", nil }, head + "MSA|AA|7||12\r"},
		{func(a *api.Ack) { a.Expect = -1 }, head + "MSA|CE|7\rERR||MSH^1^13^1|207^^HL70357|E\r"},
		{func(a *api.Ack) { a.Expect = 0 }, head + "MSA|CE|7||0\rERR||MSH^1^13^1|207^^HL70357|E\r"},
		{func(a *api.Ack) { a.Expect = 2147483647 }, head + "MSA|CE|7||2147483647\rERR||MSH^1^13^1|207^^HL70357|E\r"},
		{func(a *api.Ack) { a.Errors = []api.Finding{{Code: 100}, {Code: 205, Seg: "PID", Occur: 2}} },
			head + "MSA|CE|7||12\rERR|||100^^HL70357|E\rERR||PID^2|205^^HL70357|E\r"},
		{func(a *api.Ack) {
			a.Errors = []api.Finding{{Code: 103, Seg: "Z01", Occur: 128, Field: 66, Rep: 32, Comp: 32, Sub: 16}, {Code: 101, Seg: "PID", Occur: 1, Field: 3}}
		}, head + "MSA|CE|7||12\rERR||Z01^128^66^32^32^16|103^^HL70357|E\rERR||PID^1^3|101^^HL70357|E\r"},
		{func(a *api.Ack) {
			a.From, a.FromPlace = [3]string{"A", "b|c^\r", "ISO"}, [3]string{"", "x", "DNS"}
			a.To, a.ToPlace = [3]string{}, [3]string{"", "", "y"}
		}, "MSH|^~\\&|A^b\\F\\c\\S\\\\X0D\\^ISO|^x^DNS||^^y|20240229120000||ACK^A01^ACK|C7|P|2.5.1|||NE|NE\r" + tail},
		{func(a *api.Ack) {
			a.Marks, a.From, a.Stamp, a.Control, a.For = hash, [3]string{"a_b", "\"+", "c-d"}, "20240229120000.5+0100", "C.7-", "7.-"
		}, "MSH.-_+\".a+R+b-+T++E+-c+S+d..ADT..20240229120000+F+5+E+0100..ACK-A01-ACK.C+F+7+S+.P.2+F+5+F+1...NE.NE\rMSA.CE.7+F++S+..12\rERR..MSH-1-13-1.207--HL70357.E\r"},
	} {
		a := example()
		c.turn(&a)
		text, err := Text(a)
		if err != nil || string(text) != c.want {
			t.Errorf("Text: %q, %v\nwant  %q", text, err, c.want)
		}
		if got := modelText(a); got != c.want {
			t.Errorf("the model: %q\nwant       %q", got, c.want)
		}
	}
}

// TestP1002Refused: Build and Text refuse what Right refuses, and give nothing beside.
func TestP1002Refused(t *testing.T) {
	for number, list := range isWrong() {
		for i, turn := range list {
			a := example()
			turn(&a)
			what := fmt.Sprintf("field %d, wrong value %d", number, i)
			m, err := Build(a)
			refused(t, "Build, "+what, err, api.ErrAck, number)
			text, err := Text(a)
			refused(t, "Text, "+what, err, api.ErrAck, number)
			if m.Marks != (api.Marks{}) || len(m.Segs) != 0 || len(text) != 0 {
				t.Errorf("%s: %v, %q beside an error", what, m, text)
			}
		}
	}
}

// built are right Acks: the changes of each field one by one under several marks, and random ones.
func built() []api.Ack {
	var all []api.Ack
	for _, list := range isRight() {
		for _, turn := range list {
			for _, k := range manyMarks {
				a := example()
				a.Marks = k
				turn(&a)
				all = append(all, a)
			}
		}
	}
	r := rand.New(rand.NewSource(1002))
	for range 1000 {
		all = append(all, randomAck(r))
	}
	return append(all, greatest())
}

func TestP1002Build(t *testing.T) {
	for _, a := range built() {
		m, err := Build(a)
		if err != nil {
			t.Fatalf("%+v: %v", a, err)
		}
		if !sameMessage(m, tree.Normal(m)) {
			t.Errorf("%+v: %v is not normal", a, m)
		}
		want, err := tree.Parse([]byte(modelText(a)))
		if err != nil || !sameMessage(m, want) {
			t.Errorf("%+v: %v, %v, want %v", a, m, err, want)
		}
		text, err := Text(a)
		if err != nil || string(text) != modelText(a) || len(text) > api.MaxAnswer {
			t.Errorf("%+v: %q, %v, want %q", a, text, err, modelText(a))
		}
	}
}

// greatest is an Ack of which everything is as long as can be on the wire: a byte that goes by a pair alone takes five, a mark three.
func greatest() api.Ack {
	k := api.Marks{Field: '_', Comp: '.', Rep: '-', Esc: '\\', Sub: '+'}
	hd := [3]string{strings.Repeat("_", 20), strings.Repeat("\x00_", 32), strings.Repeat(".", 20)}
	a := api.Ack{
		Marks: k, From: hd, FromPlace: hd, To: hd, ToPlace: hd, Stamp: "20240229120000.1234+0100", Event: "A01",
		Control: strings.Repeat("-", 20), Process: "P", Version: "2.5.1", Enhanced: true, Code: "AE", For: strings.Repeat(".", 18),
		Expect: api.MaxNumber,
	}
	for range 8 {
		a.Errors = append(a.Errors, api.Finding{Code: 207, Seg: "PID", Occur: 128, Field: 66, Rep: 32, Comp: 32, Sub: 16})
	}
	return a
}

func TestP1003Greatest(t *testing.T) {
	text, err := Text(greatest())
	if err != nil || len(text) != 2042 || string(text) != modelText(greatest()) {
		t.Errorf("%d bytes, %v: %q", len(text), err, text)
	}
}

func TestP1007ThereAndBack(t *testing.T) {
	for _, a := range built() {
		m, _ := Build(a)
		if back, err := Read(m); err != nil || !same(back, a) {
			t.Errorf("Read of Build: %+v, %v, want %+v", back, err, a)
		}
		text, _ := Text(a)
		m, err := tree.Parse(text)
		if err != nil || !Is(m) {
			t.Errorf("%q: %v", text, err)
		}
		if back, err := Read(m); err != nil || !same(back, a) {
			t.Errorf("Read of Text: %+v, %v, want %+v", back, err, a)
		}
	}
}

// kinds are the kinds of the fields, by segment and number.
var kinds = map[string]map[int]string{
	"MSH": {3: "HD", 4: "HD", 5: "HD", 6: "HD", 7: "TS", 9: "MSG", 10: "ST", 11: "PT", 12: "VID", 15: "ID0155", 16: "ID0155"},
	"MSA": {1: "ID0008", 2: "ST", 4: "NM"},
	"ERR": {2: "ERL", 3: "CWE", 4: "ID0516"},
}

func TestP1008Kinds(t *testing.T) {
	for _, a := range built() {
		m, _ := Build(a)
		if len(m.Segs) != 2+len(a.Errors) || m.Segs[0].Name != "MSH" || m.Segs[1].Name != "MSA" {
			t.Fatalf("%+v: %v", a, m)
		}
		for i, s := range m.Segs {
			if i > 1 && s.Name != "ERR" {
				t.Fatalf("%+v: %v", a, m)
			}
			first := 1
			if s.Name == "MSH" {
				first = 3
			}
			for j, f := range s.Fields {
				kind := kinds[s.Name][first+j]
				if len(f.Reps) > 1 || len(f.Reps) == 1 && kind == "" {
					t.Errorf("%+v: %s-%d is %v", a, s.Name, first+j, f)
				}
				for _, r := range f.Reps {
					if flaws, err := types.Check(m.Marks, kind, r); err != nil || len(flaws) > 0 {
						t.Errorf("%+v: %s-%d is %v: %v, %v", a, s.Name, first+j, r, flaws, err)
					}
				}
			}
		}
	}
}
