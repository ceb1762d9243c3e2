package engine

import (
	"fmt"
	"slices"
	"strings"
	"testing"

	"courier/api"
)

// P1804

// Each code, by each condition, in original and in enhanced mode.
func TestVerdictByConditions(t *testing.T) {
	for _, c := range []string{"", "NE NE", "NE AL", "NE ER", "NE SU", "AL NE", "AL AL", "AL ER", "AL SU", "ER ", " AL", "SU SU"} {
		for _, code := range []string{"AA", "AE", "AR"} {
			text := of("A1", "", c)
			r := start(t, roomy(pair()), 1)
			r.arrive(framed(text))
			r.e.Sync()
			r.tick(9)
			r.verdict("A1", code, nil)
			accept, app := conditionsOf(text)
			mode := "+"
			if c == "" {
				mode = ""
			}
			answer := at(reply(code, "A1", mode), 9)
			if !comes(accept, app, code) {
				answer = ""
			}
			x := r.e.Image()
			in := x.Tables.In[0]
			if x.Written != 2 || in.Code != code || string(in.Answer) != answer || len(x.Open) != 0 {
				t.Fatalf("%q %s: image %+v", c, code, x)
			}
			if answer == "" {
				r.sync()
			} else {
				r.sync("out " + answer)
			}
		}
	}
}

// Findings at their borders.
func TestVerdictFindings(t *testing.T) {
	list := []api.Finding{
		{Code: 100}, {Code: 103, Seg: "ZZ9", Occur: 128}, {Code: 200, Seg: "MSH", Occur: 1, Field: 66},
		{Code: 207, Seg: "OBX", Occur: 2, Field: 5, Rep: 32}, {Code: 101, Seg: "OBX", Occur: 2, Field: 5, Rep: 1, Comp: 32},
		{Code: 102, Seg: "OBX", Occur: 2, Field: 5, Rep: 1, Comp: 1, Sub: 16}, {Code: 204}, {Code: 206},
	}
	for _, code := range []string{"AE", "AR"} {
		r := start(t, pair(), 1)
		r.arrive(framed(always("A1")))
		r.e.Sync()
		r.verdict("A1", code, list)
		r.sync("out " + reply(code, "A1", "+", "|100^^HL70357|E", "ZZ9^128|103^^HL70357|E", "MSH^1^66|200^^HL70357|E", "OBX^2^5^32|207^^HL70357|E",
			"OBX^2^5^1^32|101^^HL70357|E", "OBX^2^5^1^1^16|102^^HL70357|E", "|204^^HL70357|E", "|206^^HL70357|E"))
	}
}

// A verdict is taken behind a restart, for what was delivered again.
func TestVerdictBehindRestart(t *testing.T) {
	r := start(t, numbers(), 1)
	r.arrive(framed(of("A1", "1", "AL AL")))
	r.e.Sync()
	r.restart([2]api.Tear{}, 4, "deliver A1 1 again "+always("A1"))
	r.verdict("A1", "AA", nil)
	r.sync("out " + at(reply("AA", "A1", "+"), 4))
	// One whose record was lost is given again.
	r.arrive(framed(of("A2", "2", "")))
	r.e.Sync()
	r.verdict("A2", "AA", nil)
	r.restart([2]api.Tear{}, 4, "deliver A2 2 again "+original("A2"))
	r.verdict("A2", "AR", nil)
	r.sync("out " + at(reply("AR", "A2", ""), 4))
}

// The marks, and whom it answers, are the kept message's.
func TestVerdictReadsTheKeptText(t *testing.T) {
	r := start(t, pair(), 1)
	text := "MSH#*+!$#L!X41!B#N#####ADT*A01#A!X2E!1#P#2.5.1###!X414C!#SU\r"
	r.arrive(framed(text))
	ca := "MSH#*+!$#HIS##LAB#N#20260105000000##ACK*A01*ACK#CA.1#P#2.5.1###NE#NE\rMSA#CA#A.1\r"
	r.sync("out "+ca, "deliver A.1 0 new "+text)
	r.verdict("A.1", "AA", nil)
	r.sync("out " + strings.NewReplacer("#CA.1#", "#AA.1#", "MSA#CA", "MSA#AA").Replace(ca))
}

// Verdicts in another order than that of acceptance; who goes by it goes.
func TestVerdictOrder(t *testing.T) {
	s := pair()
	s.Sides[1].Compact = 256
	r := start(t, s, 1)
	for _, id := range []string{"A1", "A2", "A3"} {
		r.arrive(framed(original(id)))
	}
	r.e.Sync()
	for _, id := range []string{"A3", "A2", "A1"} {
		r.verdict(id, "AA", nil)
	}
	x := r.e.Image()
	var kept []string
	for _, e := range x.Tables.In {
		kept = append(kept, e.Control)
	}
	if !slices.Equal(kept, []string{"A2", "A3"}) || len(x.Held) != 3 || fmt.Sprint(x.Open) != "[]" {
		t.Errorf("kept %v, image %+v", kept, x)
	}
}
