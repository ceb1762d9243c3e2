package audit

import (
	"fmt"
	"testing"

	"courier/api"
)

// A crash, by the records that wait and the tears of both areas.

func TestCrashesByTears(t *testing.T) {
	a, b := message("A1", "", "AL NE"), message("A2", "", "AL NE")
	for _, c := range []struct {
		first, second int
		most          bool // all records stay
		none          bool // none does
	}{
		{0, 0, false, true},
		{area, area, true, false},
		{0, 1, false, false}, {1, 0, false, false}, {1, 1, false, false},
		{0, area, false, false}, {area, 0, false, false},
		{area - 1, area, false, false}, {area, area - 1, false, false}, {area - 1, area - 1, false, false},
	} {
		none, one, two := []api.Seen{up(0)}, []api.Seen{up(0), out(0, a)}, []api.Seen{up(0), out(0, a), out(0, b)}
		want := [][]api.Seen{none, one, two}
		switch {
		case c.most:
			want = [][]api.Seen{two}
		case c.none:
			want = [][]api.Seen{none}
		}
		p := begun(t, plainSetup())
		goes(t, p, submitting(0, a))
		goes(t, p, submitting(0, b))
		goes(t, p, crashing(0, c.first, c.second), down(0))
		may(t, p, restarting(0), want...)
		if len(p.spots) != len(want) {
			t.Errorf("%+v: %d states", c, len(p.spots))
		}
		// What is left is durable: a second crash takes none of it.
		goes(t, p, crashing(0, 0, 0))
		goes(t, p, crashing(0, 3, 3))
		may(t, p, restarting(0), want...)
		goes(t, p, restarting(1), isRefused(1, api.ErrTwice))
		for _, seen := range want {
			q := *p
			steps(t, &q, restarting(0), seen...)
			goes(t, &q, crashing(0, 0, 0), down(0))
			goes(t, &q, restarting(0), seen...)
		}
	}
}

// Zeros say nothing.
func TestCrashesByZeros(t *testing.T) {
	p := begun(t, plainSetup())
	goes(t, p, submitting(0, message("A1", "", "")))
	e := crashing(0, 0, 0)
	e.Tears[0].Zeros, e.Tears[1].Zeros = area, area
	goes(t, p, e, down(0))
	goes(t, p, restarting(0), up(0))
	goes(t, p, submitting(0, message("A1", "", "")))
	e = crashing(0, area, area)
	e.Tears[0].Zeros, e.Tears[1].Zeros = area, 1
	goes(t, p, e, down(0))
	goes(t, p, restarting(0), up(0), out(0, message("A1", "", "")))
}

// What a crash forgets: what is held, tries, timers, a half frame, the link message, which deliveries have left.
func TestCrashForgets(t *testing.T) {
	one := message("B1", "", "AL AL")
	d := newDuo(t, roomy(numbers()))
	d.sees(probing(0, "P1"), out(0, "MSH|^~\\&|LAB||HIS||20260105000000||QRY^Q01|P1|P|2.5.1|0\r"))
	d.sees(submitting(0, message("A1", "", "")))
	d.sees(putting(1, []byte("\x0bhalf")))
	d.sees(carrying(1, 0, 0))
	d.sees(syncing(0))
	d.sees(crashing(0, 0, 0), down(0))
	d.sees(restarting(0), up(0))
	// A1 waits for its number's record; the Probe is forgotten.
	d.sees(probing(0, "P2"), isRefused(0, api.ErrBusy))
	d.sees(syncing(0), out(0, message("A1", "1", "")))
	d.sees(putting(1, []byte(" frame\x1c\r")))
	d.sees(carrying(1, 0, 0))
	d.arrives(1, framed(one))
	d.sees(syncing(0), api.Seen{Kind: api.SeenOut, Text: framed("MSH|^~\\&|LAB||LAB||20260105000000||ACK^A01^ACK|CB1|P|2.5.1|||NE|NE\rMSA|CA|B1\r")}, delivered(0, "B1", 0, one))
	d.sees(crashing(0, 0, 0), down(0))
	d.sees(judging(0, "B1", "AA"), isRefused(0, api.ErrDead))
	d.sees(ticking(0, 100))
	d.sees(restarting(0), up(0), again(delivered(0, "B1", 0, one)), out(0, message("A1", "1", "")))
	d.sees(ticking(0, 4))
	d.sees(ticking(0, 1), out(0, message("A1", "1", "")))
	d.sees(judging(0, "B1", "AA"))
}

// Tables by every choice, all ways of them: one and many records of both halves, on either side.
func TestCrashesEveryWay(t *testing.T) {
	for _, sequence := range []bool{false, true} {
		s := roomy(plainSetup())
		s.Sides[0].Sequence, s.Sides[1].Sequence = sequence, sequence
		number := map[bool][2]string{true: {"1", "2"}}[sequence]
		for _, tears := range [][2]int{{0, 0}, {9, 9}, {area, area}, {0, area}} {
			crash := crashing(0, tears[0], tears[1])
			t.Run(fmt.Sprint(sequence, tears), func(t *testing.T) {
				t.Parallel()
				explored(t, s,
					putting(1, framed(message("B1", number[0], "AL AL"))), carrying(1, 0, 0),
					syncing(0), judging(0, "B1", "AA"),
					submitting(0, message("A1", "", "AL ER")),
					putting(1, framed(message("B2", number[1], ""))), carrying(1, 0, 0),
					putting(1, heard("CA", "A1", "")), carrying(1, 0, 0),
					crash, fusing(0, 1), restarting(0), crashing(0, 1, 1), restarting(0),
					syncing(0), probing(0, "P1"),
				)
			})
		}
	}
}
