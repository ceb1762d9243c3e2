package engine

import (
	"strings"
	"testing"

	"courier/api"
)

// P1810; DOC.md: numbers. First as the side that asks.

func asked(id, number string) string {
	return "out MSH|^~\\&|LAB||HIS||20260105000000||QRY^Q01|" + id + "|P|2.5.1|" + number + "\r"
}

func TestProbeIsAnswered(t *testing.T) {
	for _, c := range []struct {
		p       []byte
		told    string
		next    int
		written int
	}{
		{heard("AA", "P1", "||7"), "answer P1 answered AA", 7, 1},
		{heard("AA", "P1", "||1"), "answer P1 answered AA", 1, 1},
		{heard("AA", "P1", "||2147483647"), "answer P1 answered AA", top, 1},
		{heard("AA", "P1", "||0"), "answer P1 answered AA", 1, 0},
		{heard("AA", "P1", ""), "answer P1 answered AA", 1, 0},
		{heard("AE", "P1", "||7", "ERR|||207"), "answer P1 answered AE 207 - 0 0 0 0 0", 1, 0},
		{heard("AR", "P1", "||7", "ERR|||206"), "answer P1 answered AR 206 - 0 0 0 0 0", 1, 0},
	} {
		r := start(t, numbers(), 0)
		r.probe("P1", asked("P1", "0"))
		if x := r.e.Image(); x.Link != (api.LinkWait{Control: "P1", Left: 1, Due: 5}) || x.Written != 0 {
			t.Fatalf("image %+v", x)
		}
		if c.written == 0 {
			r.arrive(c.p, c.told)
		} else {
			r.arrive(c.p)
			r.sync(c.told)
		}
		x := r.e.Image()
		if x.Link != (api.LinkWait{}) || x.Tables.Next != c.next || x.Written != c.written || x.Counts != (api.Counts{}) {
			t.Errorf("%q: image %+v", c.p, x)
		}
		r.arrive(c.p)
		r.counts(strangeOne)
		r.tick(100)
	}
}

func TestResyncIsAnswered(t *testing.T) {
	for _, c := range []struct {
		p       []byte
		told    string
		written int
	}{
		{heard("AA", "R1", "||0"), "answer R1 answered AA", 1},
		{heard("AA", "R1", ""), "answer R1 answered AA", 1},
		{heard("AA", "R1", "||9"), "answer R1 answered AA", 1},
		{heard("AE", "R1", "||9"), "answer R1 answered AE", 0},
		{heard("AR", "R1", ""), "answer R1 answered AR", 0},
	} {
		r := start(t, numbers(), 0)
		r.resync("R1", 70, asked("R1", "-1"))
		if x := r.e.Image(); x.Link != (api.LinkWait{Control: "R1", Reset: true, Next: 70, Left: 1, Due: 5}) {
			t.Fatalf("image %+v", x)
		}
		if c.written == 0 {
			r.arrive(c.p, c.told)
		} else {
			r.arrive(c.p)
			r.sync(c.told)
		}
		if x := r.e.Image(); x.Link != (api.LinkWait{}) || x.Tables.Next != 1+69*c.written || x.Written != c.written {
			t.Errorf("%q: image %+v", c.p, x)
		}
	}
}

// Commits, and what layer 10 does not read, are strange for a link message.
func TestLinkIsNotAnswered(t *testing.T) {
	r := start(t, numbers(), 0)
	r.probe("P1", asked("P1", "0"))
	for i, p := range [][]byte{heard("CA", "P1", "||7"), heard("CE", "P1", "||7", "ERR|||207"), heard("CR", "P1", ""), heard("AA", "P2", "||7"), heard("AA", "P1", "||x"), heard("ZZ", "P1", "")} {
		r.arrive(p)
		r.counts(api.Counts{Strange: i + 1})
		if x := r.e.Image(); x.Link.Control != "P1" || x.Link.Left != 1 || x.Written != 0 {
			t.Fatalf("image %+v", x)
		}
	}
}

// It is sent again, the same bytes, as often as tries are left, and then has failed.
func TestLinkFails(t *testing.T) {
	for tries := range 4 {
		for _, reset := range []bool{false, true} {
			s := numbers()
			s.Sides[0].Tries = tries
			r := start(t, s, 0)
			out := asked("Q1", "0")
			if reset {
				out = asked("Q1", "-1")
				r.resync("Q1", 7, out)
			} else {
				r.probe("Q1", out)
			}
			for i := range tries {
				r.tick(4)
				r.tick(1, out)
				if x := r.e.Image(); x.Link.Left != tries-1-i || x.Link.Due != 5*i+10 {
					t.Fatalf("link %+v", x.Link)
				}
			}
			r.tick(4)
			r.tick(1, "answer Q1 failed")
			if x := r.e.Image(); x.Link != (api.LinkWait{}) || x.Written != 0 || x.Tables.Next != 1 {
				t.Errorf("image %+v", x)
			}
		}
	}
	// All in one step.
	r := start(t, numbers(), 0)
	r.probe("Q1", asked("Q1", "0"))
	r.tick(100, asked("Q1", "0"), "answer Q1 failed")
}

// Where it would be due beyond the clock's end it never is.
func TestLinkAtTheEnd(t *testing.T) {
	s := numbers()
	s.Start = "99991231235959"
	stamp := func(line string) string { return strings.Replace(line, "20260105000000", s.Start, 1) }
	r := startAt(t, s, 0, latest-5)
	r.probe("P1", stamp(asked("P1", "0")))
	if x := r.e.Image(); x.Link.Due != latest {
		t.Fatalf("link %+v", x.Link)
	}
	r.tick(100, stamp(asked("P1", "0")))
	if x := r.e.Image(); x.Link != (api.LinkWait{Control: "P1"}) {
		t.Fatalf("link %+v", x.Link)
	}
	r.tick(100)
	r = startAt(t, s, 0, latest-4)
	r.resync("R1", 3, stamp(asked("R1", "-1")))
	if x := r.e.Image(); x.Link != (api.LinkWait{Control: "R1", Reset: true, Next: 3, Left: 1}) {
		t.Errorf("link %+v", x.Link)
	}
}

// A crash forgets it.
func TestLinkIsForgotten(t *testing.T) {
	r := start(t, numbers(), 0)
	r.resync("R1", 70, asked("R1", "-1"))
	r.submit(always("A1"))
	r.sync()
	r.restart([2]api.Tear{}, 1)
	r.sync("out " + of("A1", "1", "AL AL"))
	r.arrive(heard("AA", "R1", ""))
	r.counts(strangeOne)
}

// Who asks whom: sides, facilities, processes, and this side's marks.
func TestLinkText(t *testing.T) {
	s := pair()
	s.Sides[0] = api.Side{App: "L_A", Facility: "EAST", Marks: common, Process: "T", Every: 5, Tries: 1, Keep: 1, Compact: 9}
	s.Sides[1] = api.Side{App: "H.S", Facility: "N-1", Marks: api.Marks{Field: '.', Comp: '_', Rep: '-', Esc: '*', Sub: '+'}, Process: "D", Sequence: true, Every: 5, Tries: 1, Keep: 1, Compact: 9}
	r := startAt(t, s, 1, 61)
	r.probe("P.1-", "out MSH._-*+.H*F*S.N*R*1.L*S*A.EAST.20260105000101..QRY_Q01.P*F*1*R*.T.2*F*5*F*1.0\r")
	// The text stays though the clock goes on.
	r.tick(5, "out MSH._-*+.H*F*S.N*R*1.L*S*A.EAST.20260105000101..QRY_Q01.P*F*1*R*.T.2*F*5*F*1.0\r")
	r.tick(5, "answer P.1- failed")
	r.resync("R", 1, "out MSH._-*+.H*F*S.N*R*1.L*S*A.EAST.20260105000111..QRY_Q01.R.T.2*F*5*F*1.*R*1\r")
}

// Then as the side that is asked.

func asking(id, number string, more ...string) []byte {
	head := "MSH|^~\\&|LAB||HIS||2026||QRY^Q01|" + id + "|P|2.5.1|" + number
	return framed(strings.Join(append([]string{head}, more...), "\r") + "\r")
}

func told13(id, expect string) string {
	return "out " + strings.Replace(reply("AA", id, "||"+expect), "ACK^A01^ACK", "ACK^Q01^ACK", 1)
}

func TestProbeIsTaken(t *testing.T) {
	r := start(t, roomy(numbers()), 1)
	r.arrive(asking("P1", "0"), told13("P1", "1"))
	r.arrive(asking("P1", "0"), told13("P1", "1"))
	r.arrive(framed(of("A1", "1", "")))
	r.arrive(asking("P2", "\\X30\\"))
	r.sync("deliver A1 1 new "+original("A1"), told13("P2", "2"))
	if x := r.e.Image(); x.Written != 1 || len(x.Tables.In) != 1 || x.Counts != (api.Counts{}) || x.Tables.Reset != "" {
		t.Errorf("image %+v", x)
	}
	// Its header is not looked at, nor are its conditions: it is in original mode.
	r.arrive([]byte("\x0bMSH|^~\\&|||||||XYZ|P3|T|2.2|0||NE|XX\r\x1c\r"), "out MSH|^~\\&|HIS||||20260105000000||ACK|AP3|P|2.5.1\rMSA|AA|P3||2\r")
	// Its control id may be that of a message that is kept.
	r.arrive(asking("A1", "0"), told13("A1", "2"))
}

func TestResyncIsTaken(t *testing.T) {
	r := start(t, roomy(numbers()), 1)
	r.arrive(framed(of("A1", "1", "")))
	r.arrive(asking("R1", "-1"))
	x := r.e.Image()
	if x.Written != 2 || x.Tables.Expects != 0 || x.Tables.Last != 0 || x.Tables.Reset != "R1" {
		t.Fatalf("image %+v", x)
	}
	r.sync("deliver A1 1 new "+original("A1"), told13("R1", "0"))
	r.arrive(asking("P1", "0"), told13("P1", "0"))
	// Any number of 1 or more is right then.
	r.arrive(framed(of("A2", "70", "")))
	r.sync("deliver A2 70 new " + original("A2"))
	r.arrive(asking("P1", "0"), told13("P1", "71"))
	// A copy of the last one that was taken changes nothing.
	r.arrive(asking("R1", "-1"), told13("R1", "0"))
	if x := r.e.Image(); x.Tables.Expects != 71 || x.Written != 3 || x.Counts != (api.Counts{}) {
		t.Fatalf("image %+v", x)
	}
	// Another one does, and then the first is a new one again.
	r.arrive(asking("R2", "-1"))
	r.arrive(asking("R1", "-1"))
	r.sync(told13("R2", "0"), told13("R1", "0"))
	if x := r.e.Image(); x.Written != 5 || x.Tables.Reset != "R1" {
		t.Fatalf("image %+v", x)
	}
	// A crash keeps which was the last one.
	r.restart([2]api.Tear{}, 0, "deliver A1 1 again "+original("A1"), "deliver A2 70 again "+original("A2"))
	r.arrive(asking("R1", "-1"), told13("R1", "0"))
	if x := r.e.Image(); x.Written != 0 {
		t.Errorf("image %+v", x)
	}
}

// What is no link message, though its number is 0 or -1.
func TestNoLinkMessage(t *testing.T) {
	// Not on a link without sequencing of that direction.
	s := pair()
	s.Sides[1].Sequence = true
	r := start(t, s, 1)
	refused := strings.Replace(reply("AR", "P1", "", report(200, 9)), "ACK^A01^ACK", "ACK^Q01^ACK", 1)
	r.arrive(asking("P1", "0"), "out "+refused)
	r.arrive(asking("P1", "-1"), "out "+refused)
	// Not with a further segment, not without a control id, and not with another number.
	r = start(t, numbers(), 1)
	r.arrive(asking("P1", "0", "PID"), "out "+refused)
	r.arrive(asking("P1", "-1", "ZZZ"), "out "+refused)
	r.arrive(asking("P1", "-0"), "out "+refused)
	r.arrive(asking("P1", "00"), "out "+refused)
	r.arrive(asking("P1", "-01"), "out "+refused)
	r.arrive(asking("P1", "0~"), told13("P1", "1"))
	r.arrive(asking("P1", "0~1"), "out "+refused)
	r.arrive(asking("P1", "0^1"), "out "+refused)
	r.counts(api.Counts{Refused: 7})
	r.arrive(asking("P 1", "0"))
	r.arrive(asking("", "-1"))
	r.counts(api.Counts{Refused: 7, Silent: 2})
	if x := r.e.Image(); x.Written != 0 {
		t.Errorf("image %+v", x)
	}
}
