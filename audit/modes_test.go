package audit

import (
	"fmt"
	"strconv"
	"strings"
	"testing"

	"courier/api"
)

// The lists of May, by mode and conditions: held against the world, and, where it is told here, against DOC.md's tables.

// conditions are original mode, and all sixteen pairs; an empty word of the two counts as NE.
func conditions() []string {
	list := []string{" "}
	for _, accept := range []string{"AL", "NE", "ER", "SU"} {
		for _, app := range []string{"AL", "NE", "ER", "SU"} {
			list = append(list, accept+" "+app)
		}
	}
	return append(list, "AL ", " SU", "ER ", " ER")
}

// comes: DOC.md, what can come; it is what is sent, too.
func comes(conditions, code string) bool {
	accept, app, _ := strings.Cut(conditions, " ")
	if accept+app == "" {
		return code[0] == 'A'
	}
	cond := app
	if code[0] == 'C' {
		cond = accept
	}
	return cond == "AL" || cond == "SU" && code[1] == 'A' || cond == "ER" && code[1] != 'A'
}

// owes: a commit, an application's answer.
func owes(conditions string) (bool, bool) {
	return comes(conditions, "CA"), comes(conditions, "AA")
}

// listens: something may come though nothing is owed, behind the commit or without one.
func listens(conditions string) bool {
	commit, app := owes(conditions)
	return !app && (comes(conditions, "AE") || !commit && comes(conditions, "CE"))
}

// eachMode runs a test for each pair of conditions, with and without sequencing; number is that of the first message.
func eachMode(t *testing.T, test func(t *testing.T, d *duo, conditions, number string)) {
	for _, c := range conditions() {
		for _, sequence := range []bool{false, true} {
			t.Run(fmt.Sprintf("%q %v", c, sequence), func(t *testing.T) {
				t.Parallel()
				s, number := roomy(plainSetup()), ""
				for i := range s.Sides {
					s.Sides[i].Sequence = sequence
				}
				if sequence {
					number = "1"
				}
				test(t, newDuo(t, s), c, number)
			})
		}
	}
}

// sent lets A1 go out.
func (d *duo) sent(c, number string) {
	d.t.Helper()
	d.sees(submitting(0, message("A1", "", c)))
	want := []api.Seen{out(0, message("A1", number, c))}
	if commit, app := owes(c); !commit && !app && !listens(c) {
		want = append(want, closed(0, "A1"))
	}
	d.sees(syncing(0), want...)
}

// taken lets A1 go out and arrive.
func (d *duo) taken(c, number string) {
	d.t.Helper()
	d.sent(c, number)
	d.sees(carrying(0, 0, 0))
	var want []api.Seen
	if comes(c, "CA") {
		want = append(want, out(1, reply("CA", "A1", "")))
	}
	n, _ := strconv.Atoi(number)
	d.sees(syncing(1), append(want, delivered(1, "A1", n, message("A1", "", c)))...)
}

func (d *duo) carryAll(side int) {
	d.t.Helper()
	for d.link.Len(side) > 0 {
		d.does(carrying(side, 0, 0))
	}
}

// Submitted, carried, judged, answered.
func TestVerdicts(t *testing.T) {
	for _, code := range []string{"AA", "AE", "AR"} {
		eachMode(t, func(t *testing.T, d *duo, c, number string) {
			d.taken(c, number)
			d.sees(judging(1, "A1", code))
			mark := map[bool]string{true: "", false: "+"}[c == " "]
			if comes(c, code) {
				d.sees(syncing(1), out(1, reply(code+mark, "A1", "")))
			} else {
				d.sees(syncing(1))
			}
			d.sees(judging(1, "A1", code), isRefused(1, api.ErrSide))
			d.carryAll(1)
			commit, app := owes(c)
			var want []api.Seen
			switch {
			case comes(c, code):
				want = []api.Seen{answered(0, "A1", code)}
			case commit && !app && !listens(c):
				want = []api.Seen{answered(0, "A1", "CA")}
			}
			d.sees(syncing(0), want...)
			// What was not told yet is told by the clock.
			for range 4 {
				d.does(ticking(0, 5))
				d.does(syncing(0))
			}
			if x := d.engines[0].Image(); len(x.Sent) != 0 {
				t.Errorf("outstanding: %+v", x.Sent)
			}
			d.sees(ticking(both, 100))
		})
	}
}

// The application's findings go with its verdict, and are told.
func TestVerdictsWithFindings(t *testing.T) {
	found := []api.Finding{{Code: 101, Seg: "PID", Occur: 1, Field: 3}, {Code: 207}}
	eachMode(t, func(t *testing.T, d *duo, c, number string) {
		d.taken(c, number)
		d.sees(judging(1, "A1", "AA", found...), isRefused(1, api.ErrArg))
		d.sees(judging(1, "A1", "AE", api.Finding{Code: 99}), isRefused(1, api.ErrArg))
		d.sees(judging(1, "A1", "AE", make([]api.Finding, 9)...), isRefused(1, api.ErrArg))
		for _, code := range []string{"", "CA", "AX", "aa", "A", "CE"} {
			d.sees(judging(1, "A1", code), isRefused(1, api.ErrArg))
		}
		d.sees(judging(1, "A2", "AE"), isRefused(1, api.ErrSide))
		d.sees(judging(1, "A1", "AE", found...))
		d.does(syncing(1))
		d.carryAll(1)
		if comes(c, "AE") {
			d.sees(syncing(0), answered(0, "A1", "AE", found...))
		}
	})
}

// A message that is lost goes out again, and then has failed, if anything was owed; else it is closed.
func TestLost(t *testing.T) {
	eachMode(t, func(t *testing.T, d *duo, c, number string) {
		d.sent(c, number)
		d.sees(dropping(0, 0))
		d.sees(ticking(0, 4))
		commit, app := owes(c)
		one := out(0, message("A1", number, c))
		switch {
		case commit || app:
			d.sees(ticking(0, 1), one)
			d.sees(ticking(0, 4))
			d.sees(ticking(0, 1))
			d.sees(syncing(0), failed(0, "A1"))
		case listens(c):
			d.sees(ticking(0, 1))
			d.sees(syncing(0), closed(0, "A1"))
		}
		d.sees(ticking(both, 50))
		d.sees(syncing(0))
	})
}

// A copy is answered from what is kept, whatever was sent ahead.
func TestCopies(t *testing.T) {
	for _, code := range []string{"", "AA", "AR"} {
		eachMode(t, func(t *testing.T, d *duo, c, number string) {
			d.sent(c, number)
			d.sees(doubling(0, 0))
			d.sees(doubling(0, 1))
			d.sees(carrying(0, 0, 0))
			// What is held behind the record does not answer, but all else does.
			d.does(carrying(0, 0, 0))
			d.does(syncing(1))
			if code != "" {
				d.sees(judging(1, "A1", code))
			}
			d.does(syncing(1))
			var want []api.Seen
			if comes(c, "CA") {
				want = append(want, out(1, reply("CA", "A1", "")))
			}
			if code != "" && comes(c, code) {
				mark := map[bool]string{true: "", false: "+"}[c == " "]
				want = append(want, out(1, reply(code+mark, "A1", "")))
			}
			d.sees(ticking(1, 30))
			d.sees(carrying(0, 0, 0), want...)
			d.carryAll(1)
			d.does(syncing(0))
		})
	}
}

// Refused by the header, by the structure, as another one, by the number.
func TestRefusals(t *testing.T) {
	eachMode(t, func(t *testing.T, d *duo, c, number string) {
		code := map[bool]string{true: "A", false: "C"}[c == " "]
		refusal := func(kind string, behind, rest string) []api.Seen {
			if !comes(c, code+kind) {
				return nil
			}
			return []api.Seen{out(1, reply(code+kind, "A1", behind, rest))}
		}
		one := message("A1", number, c)
		change := func(old, with string) []byte { return framed(strings.Replace(one, old, with, 1)) }
		other := func(kind string) []api.Seen {
			list := refusal("R", "", kind)
			for i := range list {
				list[i].Text = []byte(strings.Replace(string(list[i].Text), "ACK^A01^ACK", "ACK^A02^ACK", 1))
			}
			return list
		}
		d.arrives(0, change("ADT^A01", "ADT^A02"), other(report(201, 9))...)
		d.arrives(0, change("ADT^A01", "ORU^A02"), other(report(200, 9))...)
		d.arrives(0, change("|P|", "|D|"), refusal("R", "", report(202, 11))...)
		d.arrives(0, change("2.5.1", "2.4"), refusal("R", "", report(203, 12))...)
		d.arrives(0, framed(one+"NK1\r"), refusal("E", "", "NK1^1|100^^HL70357|E")...)
		d.arrives(0, framed(one+"PID|\t\r"), refusal("R", "", report(100, 1))...)
		d.arrives(0, framed(strings.Replace(one, "|A1|", "|A 1|", 1)))
		if number != "" {
			d.arrives(0, change("2.5.1|1", "2.5.1|x"), refusal("E", "", report(102, 13))...)
			d.arrives(0, change("2.5.1|1", "2.5.1|2"), refusal("E", "||1", report(207, 13))...)
		}
		// Nothing of all that is kept.
		d.taken(c, number)
		d.arrives(0, change("2026", "2027"), refusal("E", "", report(205, 10))...)
	})
}

// A word that is none of the five: as in original mode.
func TestRefusalsOfConditions(t *testing.T) {
	d := newDuo(t, roomy(plainSetup()))
	for _, c := range []struct {
		conditions string
		field      int
	}{{"XX AL", 15}, {"AL XX", 16}, {"al YY", 15}} {
		d.arrives(0, framed(message("A1", "", c.conditions)), out(1, reply("AR", "A1", "", report(103, c.field))))
		d.arrives(0, framed(strings.Replace(message("A1", "", c.conditions), "|P|", "|T|", 1)), out(1, reply("AR", "A1", "", report(202, 11))))
		d.sees(submitting(0, message("A1", "", c.conditions)), isRefused(0, api.ErrForm))
	}
}

// Each code, with and without an error 207 and a number, heard where the message waits for its commit, for its answer, and listens.
func TestHeard(t *testing.T) {
	behinds := []string{"", "||0", "||1", "||5", "||2147483647"}
	for _, code := range []string{"CA", "CE", "CR", "AA", "AE", "AR"} {
		eachMode(t, func(t *testing.T, d *duo, c, number string) {
			d.sent(c, number)
			for _, ahead := range []string{"", "CA"} {
				for _, behind := range behinds {
					for _, errors := range [][]string{nil, {"ERR||" + report(207, 13)}, {"ERR||" + report(101, 3), "ERR||" + report(207, 13)}} {
						q := newDuo(t, d.setup)
						q.sent(c, number)
						if ahead != "" {
							q.does(putting(1, heard(ahead, "A1", "")))
							q.does(carrying(1, 0, 0))
						}
						for range 2 {
							q.does(putting(1, heard(code, "A1", behind, errors...)))
							q.does(carrying(1, 0, 0))
						}
						q.does(syncing(0))
						q.does(ticking(0, 5))
						q.does(ticking(0, 30))
						q.does(syncing(0))
					}
				}
			}
		})
	}
}

// What is strange changes nothing.
func TestStrange(t *testing.T) {
	eachMode(t, func(t *testing.T, d *duo, c, number string) {
		d.sent(c, number)
		d.sees(submitting(0, message("A2", "", "AL AL")))
		for _, p := range [][]byte{
			heard("AA", "A9", ""), heard("ZZ", "A1", ""), heard("AA", "A 1", ""), heard("AA", "A1", "||x"), heard("AA", "A1", "||012"),
			framed("MSH|^~\\&\rMSA"), framed("MSH|^~\\&|||||||ACK|X\rMSA||A1"),
		} {
			d.arrives(1, p)
		}
		for _, code := range []string{"CA", "CE", "CR", "AA", "AE", "AR"} {
			if !comes(c, code) {
				d.arrives(1, heard(code, "A1", ""))
			}
		}
		// The message whose turn has not come yet has no answer either.
		d.does(putting(1, heard("AA", "A2", "")))
		d.does(carrying(1, 0, 0))
		d.does(syncing(0))
		d.does(ticking(0, 5))
	})
}
