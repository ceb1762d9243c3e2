package engine

import (
	"reflect"
	"testing"

	"courier/api"
)

// Words: the turn; DOC.md: numbers, and what an initiator is owed.

// Without sequencing everything goes out at once, in order, and each with its own timer.
func TestTurnWithoutSequencing(t *testing.T) {
	r := start(t, roomy(pair()), 0)
	r.submit(always("A2"))
	r.tick(1)
	r.submit(original("A1"))
	r.sync("out "+always("A2"), "out "+original("A1"))
	x := r.e.Image()
	if !x.Sent[0].Under || !x.Sent[1].Under || !reflect.DeepEqual(x.Dues, []int{5, 6}) || x.Tables.Next != 0 || x.Sent[0].Number != 0 {
		t.Errorf("image %+v", x)
	}
}

// With sequencing just the oldest is under way; the next takes its number when that is settled.
func TestTurnWithSequencing(t *testing.T) {
	r := start(t, roomy(numbers()), 0)
	r.submit(always("A1"))
	r.submit(always("A2"))
	r.submit(of("A3", "", "NE NE"))
	r.submit(of("A4", "", "AL NE"))
	r.sync("out " + of("A1", "1", "AL AL"))
	x := r.e.Image()
	if !x.Sent[0].Under || x.Sent[0].Number != 1 || x.Sent[1].Under || x.Sent[1].Number != 0 || !reflect.DeepEqual(x.Dues, []int{5, 0, 0, 0}) || x.Tables.Next != 2 || x.Written != 5 {
		t.Fatalf("image %+v", x)
	}
	r.arrive(heard("CE", "A2", ""))
	r.counts(api.Counts{Strange: 1})
	r.arrive(heard("CE", "A1", ""))
	r.sync("answer A1 answered CE", "out "+of("A2", "2", "AL AL"))
	// A3 is closed with its first sending, and A4 has its turn in the same step.
	r.arrive(heard("CR", "A2", ""))
	r.sync("answer A2 answered CR", "out "+of("A3", "3", "NE NE"), "answer A3 closed", "out "+of("A4", "4", "AL NE"))
	r.arrive(heard("CA", "A4", ""))
	r.sync("answer A4 answered CA")
	if x := r.e.Image(); x.Tables.Next != 5 || len(x.Sent) != 0 {
		t.Errorf("image %+v", x)
	}
}

// What is submitted while a link message is under way waits for it, whatever becomes of that.
func TestTurnBehindLinkMessage(t *testing.T) {
	probe := "out MSH|^~\\&|LAB||HIS||20260105000000||QRY^Q01|P1|P|2.5.1|0\r"
	for name, c := range map[string]struct {
		ends   func(r *rig)
		number string
		later  []string
	}{
		// Its end waits for the record of the number on which both agree.
		"answered": {func(r *rig) { r.arrive(heard("AA", "P1", "||9")) }, "9", []string{"answer P1 answered AA"}},
		"refused":  {func(r *rig) { r.arrive(heard("AR", "P1", "||9"), "answer P1 answered AR") }, "1", nil},
		"failed":   {func(r *rig) { r.tick(10, probe, "answer P1 failed") }, "1", nil},
	} {
		r := start(t, roomy(numbers()), 0)
		r.probe("P1", probe)
		r.submit(always("A1"))
		r.submit(always("A2"))
		r.sync()
		if x := r.e.Image(); x.Sent[0].Under || x.Sent[0].Number != 0 || x.Written != 2 || !reflect.DeepEqual(x.Dues, []int{0, 0}) {
			t.Fatalf("%s: image %+v", name, x)
		}
		r.arrive(heard("CE", "A1", ""))
		r.counts(api.Counts{Strange: 1})
		c.ends(r)
		x := r.e.Image()
		if x.Link != (api.LinkWait{}) || !x.Sent[0].Under || x.Sent[1].Under || x.Dues[0] != x.Now+5 {
			t.Errorf("%s: image %+v", name, x)
		}
		r.sync(append(c.later, "out "+of("A1", c.number, "AL AL"))...)
	}
}

// Where no number is left what waits has failed, without going out.
func TestTurnWithoutNumbers(t *testing.T) {
	r := start(t, roomy(numbers()), 0)
	r.resync("R1", top-1, "out MSH|^~\\&|LAB||HIS||20260105000000||QRY^Q01|R1|P|2.5.1|-1\r")
	for _, id := range []string{"A1", "A2", "A3", "A4"} {
		r.submit(of(id, "", "AL NE"))
	}
	r.arrive(heard("AA", "R1", "||0"))
	r.sync("answer R1 answered AA", "out "+of("A1", "2147483646", "AL NE"))
	r.arrive(heard("CA", "A1", ""))
	r.sync("answer A1 answered CA", "out "+of("A2", "2147483647", "AL NE"))
	if next := r.e.Image().Tables.Next; next != 0 {
		t.Errorf("next is %d", next)
	}
	r.arrive(heard("CA", "A2", ""))
	r.sync("answer A2 answered CA", "answer A3 failed", "answer A4 failed")
	x := r.e.Image()
	if len(x.Sent) != 0 || len(x.Tables.Out) != 0 || x.Written != x.Safe || x.Tables.Next != 0 {
		t.Errorf("image %+v", x)
	}
	// So it is behind a crash, and a Resync brings new numbers.
	r.reopen(0)
	r.resync("R2", 5, "out MSH|^~\\&|LAB||HIS||20260105000000||QRY^Q01|R2|P|2.5.1|-1\r")
	r.refuses("spent still", submitting(always("A5")), api.ErrSpent, 0)
	r.arrive(heard("AA", "R2", ""))
	r.submit(always("A5"))
	r.sync("answer R2 answered AA", "out "+of("A5", "5", "AL AL"))
}

// The one without a number that a crash has left behind has failed when it is opened; none is told twice.
func TestTurnWithoutNumbersAtOpen(t *testing.T) {
	r := start(t, roomy(numbers()), 0)
	r.submit(original("A1"))
	r.submit(original("A2"))
	r.sync("out " + of("A1", "1", ""))
	r.arrive(heard("AE", "A1", "||2147483647", "ERR|||207"))
	r.arrive(heard("AE", "A1", "||7", "ERR|||207"))
	if x := r.e.Image(); len(x.Sent) != 0 || x.Written != 6 {
		t.Fatalf("image %+v", x)
	}
	// Of the six records the last one is torn.
	size, _ := r.d.Len(1)
	synced, _ := r.d.Synced(1)
	r.restart([2]api.Tear{{}, {Keep: size - synced - 1}}, 0)
	if x := r.e.Image(); x.Written != 1 || len(x.Sent) != 0 || x.Tables.Next != 0 {
		t.Errorf("image %+v", x)
	}
	r.sync("answer A2 failed")
}

// What each pair of conditions brings: which of the codes settle it, and what becomes of it without any.
func TestTurnByConditions(t *testing.T) {
	words := []string{"NE", "AL", "ER", "SU"}
	pairs := []string{""}
	for _, accept := range words {
		for _, app := range words {
			pairs = append(pairs, accept+" "+app)
		}
	}
	pairs = append(pairs, "AL ", " AL", "ER ", " SU")
	for _, p := range pairs {
		text := of("A1", "", p)
		accept, app := conditionsOf(text)
		commit, answer := owes(accept, app)
		listens := accept == "ER" || app == "ER"
		r := start(t, pair(), 0)
		r.submit(text)
		switch {
		case commit || answer:
			r.sync("out " + text)
			r.tick(5, "out "+text)
			r.tick(5)
			r.sync("answer A1 failed")
		case listens:
			r.sync("out " + text)
			r.tick(4)
			r.tick(1)
			r.sync("answer A1 closed")
		default:
			r.sync("out "+text, "answer A1 closed")
		}
		if x := r.e.Image(); len(x.Sent) != 0 {
			t.Errorf("%q: %+v", p, x.Sent)
		}
		for _, code := range []string{"CA", "CE", "CR", "AA", "AE", "AR"} {
			r := start(t, pair(), 0)
			r.submit(text)
			r.e.Sync()
			under := commit || answer || listens
			r.arrive(heard(code, "A1", ""))
			switch {
			case !under || !comes(accept, app, code):
				r.counts(api.Counts{Strange: 1})
				r.sync()
			case code == "CA" && (answer || app == "ER"):
				r.sync()
				if x := r.e.Image(); !x.Tables.Out[0].Noted {
					t.Errorf("%q: %+v", p, x)
				}
				r.counts(api.Counts{})
			default:
				r.sync("answer A1 answered " + code)
				r.counts(api.Counts{})
			}
		}
	}
}
