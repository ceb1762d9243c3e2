package audit

import (
	"fmt"
	"strconv"
	"strings"
	"testing"

	"courier/api"
)

// Both clocks, and what fills up: held against the world at each limit and one beyond.

func TestBothClocks(t *testing.T) {
	s := numbers()
	s.Sides[1].Sequence = true
	d := newDuo(t, s)
	text := func(side int, id, stamp string) api.Seen {
		names := [][2]string{{"LAB", "HIS"}, {"HIS", "LAB"}}[side]
		return out(side, "MSH|^~\\&|"+names[0]+"||"+names[1]+"||"+stamp+"||QRY^Q01|"+id+"|P|2.5.1|0\r")
	}
	d.sees(ticking(0, 5))
	d.sees(ticking(1, 61))
	d.sees(ticking(both, 100000))
	d.sees(probing(0, "P1"), text(0, "P1", "20260106034645"))
	d.sees(probing(1, "P1"), text(1, "P1", "20260106034741"))
	// Both are due; side 0 is told first.
	d.sees(ticking(both, 5), text(0, "P1", "20260106034645"), text(1, "P1", "20260106034741"))
	d.sees(ticking(both, 5), failed(0, "P1"), failed(1, "P1"))
	// A clock goes on while its side is down.
	d.sees(crashing(1, 0, 0), down(1))
	d.sees(ticking(both, 3))
	d.sees(ticking(1, 3))
	d.sees(restarting(1), up(1))
	d.sees(probing(1, "P2"), text(1, "P2", "20260106034757"))
}

// A message whose timer is set anew comes again in the same step; timers come by tick and control id, the link message's last.
func TestManyTimersOfOneTick(t *testing.T) {
	s := roomy(plainSetup())
	s.Sides[0].Tries = 16
	d := newDuo(t, s)
	for _, id := range []string{"b", "B", "a", "C"} {
		d.sees(submitting(0, message(id, "", "")))
	}
	d.sees(syncing(0), out(0, message("b", "", "")), out(0, message("B", "", "")), out(0, message("a", "", "")), out(0, message("C", "", "")))
	var want []api.Seen
	for range 16 {
		for _, id := range []string{"B", "C", "a", "b"} {
			want = append(want, out(0, message(id, "", "")))
		}
	}
	d.sees(ticking(0, 100000), want...)
	d.sees(syncing(0), failed(0, "B"), failed(0, "C"), failed(0, "a"), failed(0, "b"))
}

// lastTicks is a Pair and its world near the end of the clocks.
func lastTicks(t *testing.T, s api.Setup, left int) *duo {
	t.Helper()
	d := newDuo(t, s)
	d.sees(ticking(both, 100000))
	// Ticks go as far as a step lets them: the rest is put on both.
	for side := range 2 {
		d.p.sides[d.p.spots[0].sides[side]].now = latest - left
	}
	return d
}

// A clock stays at MaxTick; what would be due beyond it never comes.
func TestTheLastTick(t *testing.T) {
	p := lastTicks(t, plainSetup(), 7).p
	one := message("A1", "", "")
	goes(t, p, submitting(0, one))
	goes(t, p, syncing(0), out(0, one))
	goes(t, p, ticking(both, 6), out(0, one))
	goes(t, p, ticking(both, 100000))
	for side := range 2 {
		if now := p.sides[p.spots[0].sides[side]].now; now != latest {
			t.Errorf("side %d: %d", side, now)
		}
	}
	goes(t, p, ticking(0, 1))
	goes(t, p, submitting(0, message("A2", "", "AL ER")))
	goes(t, p, syncing(0), out(0, message("A2", "", "AL ER")))
	goes(t, p, ticking(both, 100000))
	goes(t, p, putting(1, heard("AA", "A1", "")))
	goes(t, p, carrying(1, 0, 0))
	goes(t, p, syncing(0), answered(0, "A1", "AA"))
	// Down, it stays there too.
	goes(t, p, crashing(1, 0, 0), down(1))
	goes(t, p, ticking(1, 5))
	goes(t, p, restarting(1), up(1))
	goes(t, p, ticking(1, 5))
}

// A timer that is due just at MaxTick comes; one of a tick later does not.
func TestTimersAtTheLastTick(t *testing.T) {
	for left, comes := range map[int]bool{5: true, 4: false} {
		s := numbers()
		p := lastTicks(t, s, left).p
		question := out(0, "MSH|^~\\&|LAB||HIS||99991231235959||QRY^Q01|P1|P|2.5.1|0\r")
		goes(t, p, probing(0, "P1"), question)
		if comes {
			goes(t, p, ticking(0, 100), question)
		}
		goes(t, p, ticking(0, 100))
		q := lastTicks(t, plainSetup(), left).p
		goes(t, q, submitting(0, message("A1", "", "")))
		goes(t, q, syncing(0), out(0, message("A1", "", "")))
		if comes {
			goes(t, q, ticking(0, 100), out(0, message("A1", "", "")))
		}
		goes(t, q, ticking(0, 100))
	}
}

func TestOutstandingOnes(t *testing.T) {
	for _, s := range []api.Setup{roomy(plainSetup()), roomy(numbers())} {
		d := newDuo(t, s)
		for i := range 32 {
			d.does(submitting(0, message("A"+strconv.Itoa(i), "", "")))
		}
		d.sees(submitting(0, message("B", "", "")), isRefused(0, api.ErrFull))
		d.sees(submitting(0, message("A3", "", "")), isRefused(0, api.ErrTwice))
		d.does(syncing(0))
		d.does(putting(1, heard("AA", "A0", "")))
		d.does(carrying(1, 0, 0))
		d.sees(submitting(0, message("B", "", "")))
		d.does(crashing(0, area, area))
		d.does(restarting(0))
		d.sees(submitting(0, message("C", "", "")), isRefused(0, api.ErrFull))
	}
}

func TestOpenOnes(t *testing.T) {
	for _, sequence := range []bool{false, true} {
		s := roomy(plainSetup())
		s.Sides[0].Sequence = sequence
		d := newDuo(t, s)
		number := func(n int) string { return map[bool]string{true: strconv.Itoa(n)}[sequence] }
		for i := range 32 {
			d.arrives(0, framed(message("A"+strconv.Itoa(i), number(i+1), "AL AL")))
		}
		// The conditions of what is refused are its own.
		d.arrives(0, framed(message("B1", number(33), "NE NE")))
		d.does(syncing(1))
		for d.link.Len(1) > 0 {
			d.does(dropping(1, 0))
		}
		d.arrives(0, framed(message("B2", number(33), "AL NE")), out(1, reply("CE", "B2", "", report(207, 1))))
		d.sees(judging(1, "A7", "AA"))
		d.does(syncing(1))
		d.arrives(0, framed(message("B2", number(33), "AL NE")))
		d.sees(syncing(1), out(1, reply("CA", "B2", "")), api.Seen{Kind: api.SeenDeliver, Side: 1, Control: "B2", Number: map[bool]int{true: 33}[sequence], Text: []byte(message("B2", "", "AL NE"))})
	}
}

// A frame that is made while MaxHeld outputs wait is not made; deliveries and tellings are.
func TestHeldOutputs(t *testing.T) {
	d := newDuo(t, roomy(plainSetup()))
	one, frame := message("B1", "", "AL AL"), framed(message("B1", "", "AL AL"))
	d.arrives(0, frame)
	d.sees(putting(0, frame))
	for range 509 {
		d.sees(doubling(0, 0))
		d.sees(carrying(0, 1, 0))
	}
	d.sees(carrying(0, 0, 0))
	for i := range 3 {
		d.arrives(0, framed(message("C"+strconv.Itoa(i), "", "AL AL")))
	}
	d.sees(judging(1, "B1", "AA"), isRefused(1, api.ErrSide))
	if n := len(d.engines[1].Image().Held); n != 512+3 {
		t.Errorf("%d held", n)
	}
	seen := d.does(syncing(1))
	var outs, given, lost int
	for _, s := range seen {
		switch s.Kind {
		case api.SeenOut:
			outs++
		case api.SeenDeliver:
			given++
		case api.SeenLost:
			lost++
		}
	}
	// There is room under way for 256 pieces alone.
	if outs != 511 || given != 4 || lost != 511-256 || !same(seen[1:2], []api.Seen{delivered(1, "B1", 0, one)}) {
		t.Errorf("%d, %d, %d", outs, given, lost)
	}
	// And the next frame finds none either.
	d.sees(putting(0, frame))
	d.sees(carrying(0, 0, 0), out(1, reply("CA", "B1", "")), isLost(1))
	d.sees(dropping(1, 9))
	d.sees(putting(0, frame))
	d.sees(carrying(0, 0, 0), out(1, reply("CA", "B1", "")))
	d.sees(putting(1, []byte("x")), isRefused(1, api.ErrFull))
	d.sees(doubling(1, 0), isRefused(1, api.ErrFull))
}

// What was sent in one step finds room for its first pieces alone; on the other way there is room.
func TestLosses(t *testing.T) {
	s := roomy(plainSetup())
	d := newDuo(t, s)
	d.sees(submitting(0, message("A1", "", "NE NE")))
	d.sees(submitting(0, message("A2", "", "")))
	d.sees(submitting(1, message("A1", "", "")))
	for range 254 {
		d.sees(putting(0, []byte("x")))
	}
	d.does(putting(0, []byte("y")))
	d.sees(syncing(0), out(0, message("A1", "", "NE NE")), closed(0, "A1"), out(0, message("A2", "", "")), isLost(0))
	d.sees(syncing(1), out(1, message("A1", "", "")))
	d.sees(ticking(both, 5), out(0, message("A2", "", "")), isLost(0), out(1, message("A1", "", "")))
}

// Messages at the greatest length and beyond, whole or without their last CR.
func TestLongMessages(t *testing.T) {
	head := strings.TrimSuffix(message("A1", "", "AL NE"), "\r")
	for _, long := range []string{head + "\rPID|", strings.Replace(head, "LAB", "LA", 1) + "\rPID|"} {
		for n := 8186; n <= 8196; n++ {
			for _, end := range []string{"\r", ""} {
				for _, sequence := range []bool{false, true} {
					s := roomy(plainSetup())
					s.Sides[0].Sequence = sequence
					d := newDuo(t, s)
					text := long + strings.Repeat("x", n-len(long)-len(end)) + end
					d.does(submitting(0, text))
					d.does(syncing(0))
					if len(text) <= 8192 {
						d.does(putting(0, framed(text)))
					} else {
						// In two pieces, as the link takes them.
						d.does(putting(0, []byte("\x0b"+text[:8000])))
						d.does(putting(0, []byte(text[8000:]+"\x1c\r")))
					}
					for d.link.Len(0) > 0 {
						d.does(carrying(0, 0, 0))
					}
					d.does(syncing(1))
					d.carryAll(1)
					d.does(syncing(0))
				}
			}
		}
	}
}

// A frame without an end goes on, kept as far as may be.
func TestEndlessFrames(t *testing.T) {
	for _, ending := range []string{"\x1c\r", "\x1cx", "\x0b", "\x0b\x1c\r"} {
		d := newDuo(t, plainSetup())
		d.does(putting(0, []byte("\x0b"+message("A1", "", "AL NE"))))
		d.does(carrying(0, 0, 0))
		for range 4 {
			d.does(putting(0, []byte(strings.Repeat("z", 8195))))
			d.does(carrying(0, 0, 0))
			d.agrees()
		}
		d.does(putting(0, []byte("\x1c")))
		d.does(carrying(0, 0, 0))
		d.does(putting(0, []byte(ending[1:])))
		if ending[0] == '\x0b' {
			d.does(putting(0, []byte(ending)))
		}
		for d.link.Len(0) > 0 {
			d.does(carrying(0, 0, 0))
			d.agrees()
		}
		d.arrives(0, []byte("some more"))
		d.agrees()
		d.arrives(0, framed(message("A2", "", "AL NE")))
		d.does(syncing(1))
		d.agrees()
	}
}

// What is under way is cut, turned round, doubled and lost; each refusal is the link's.
func TestPieces(t *testing.T) {
	one := message("A1", "", "AL NE")
	for cut := 1; cut < len(framed(one)); cut += 7 {
		d := newDuo(t, plainSetup())
		d.sees(putting(0, framed(one)))
		d.sees(putting(0, []byte("x")))
		d.sees(carrying(0, 0, cut))
		d.sees(carrying(0, 1, 0), isRefused(0, api.ErrRange))
		d.sees(doubling(0, 0), isRefused(0, api.ErrRange))
		d.sees(clipping(0, 0, 0), isRefused(0, api.ErrRange))
		d.sees(clipping(0, 0, len(framed(one))-cut+1), isRefused(0, api.ErrRange))
		d.sees(clipping(0, 0, len(framed(one))-cut))
		d.sees(carrying(0, 0, 10000), isRefused(0, api.ErrRange))
		d.sees(dropping(0, 2), isRefused(0, api.ErrRange))
		d.sees(doubling(0, 1))
		d.sees(clipping(0, 1, 1))
		d.sees(carrying(0, 0, 0))
		d.sees(syncing(1), out(1, reply("CA", "A1", "")), delivered(1, "A1", 0, one))
		d.sees(carrying(0, 0, 1))
		d.sees(carrying(0, 0, 0))
		d.sees(carrying(0, 0, 0), isRefused(0, api.ErrRange))
	}
	d := newDuo(t, plainSetup())
	for _, e := range []api.Event{putting(0, nil), putting(0, make([]byte, 8196)), {Kind: api.EvNoise}, {Kind: api.EvNoise, Text: make([]byte, 65)}} {
		d.sees(e, isRefused(0, api.ErrLong))
	}
	d.sees(api.Event{Kind: api.EvNoise, Text: []byte("a\x0b")}, isRefused(0, api.ErrFraming))
	d.sees(api.Event{Kind: api.EvNoise, Text: []byte(strings.Repeat("a", 64))})
	d.sees(putting(0, make([]byte, 8195)))
	// A piece that arrives at a side that is down is gone.
	d.sees(crashing(1, 0, 0), down(1))
	d.sees(putting(0, framed(one)))
	d.sees(carrying(0, 2, 9))
	d.sees(restarting(1), up(1))
	d.sees(carrying(0, 2, 0))
	d.sees(syncing(1))
}

// Numbers at their end: none is left behind MaxNumber.
func TestTheLastNumber(t *testing.T) {
	s := roomy(numbers())
	s.Sides[0].Tries = 2
	d := newDuo(t, s)
	d.does(resyncing(0, "R1", top))
	for i := range 3 {
		d.sees(submitting(0, message("A"+strconv.Itoa(i), "", "AL NE")))
	}
	d.does(carrying(0, 0, 0))
	d.does(syncing(1))
	d.does(carrying(1, 0, 0))
	d.sees(submitting(0, message("B", "", "")), isRefused(0, api.ErrSpent))
	d.sees(syncing(0), answered(0, "R1", "AA"), out(0, message("A0", fmt.Sprint(top), "AL NE")))
	d.does(carrying(0, 0, 0))
	d.does(syncing(1))
	d.does(carrying(1, 0, 0))
	d.sees(syncing(0), answered(0, "A0", "CA"), failed(0, "A1"), failed(0, "A2"))
	// The other side expects none any more.
	d.arrives(0, framed(message("B1", fmt.Sprint(top), "AL NE")), out(1, reply("CE", "B1", "||0", report(207, 13))))
	d.sees(probing(0, "P1"), out(0, "MSH|^~\\&|LAB||HIS||20260105000000||QRY^Q01|P1|P|2.5.1|0\r"))
	d.sees(carrying(0, 0, 0), out(1, strings.Replace(reply("AA", "P1", "||0"), "A01", "Q01", 1)))
	// By a number that was told a message goes on; that is one try.
	d.does(resyncing(0, "R2", 5))
	d.sees(putting(1, heard("AA", "P1", "||3")))
	d.does(carrying(1, 0, 0))
	d.does(carrying(1, 0, 0))
	d.does(resyncing(0, "R2", 5))
	d.does(putting(1, heard("AA", "R2", "")))
	d.does(carrying(1, 0, 0))
	d.does(submitting(0, message("C1", "", "AL NE")))
	d.does(syncing(0))
	for range 2 {
		for _, expect := range []int{9, top, 9} {
			d.does(putting(1, heard("CE", "C1", "||"+strconv.Itoa(expect), "ERR||"+report(207, 13))))
			d.does(carrying(1, 0, 0))
			d.does(syncing(0))
		}
	}
}

// Probe and Resync: each refusal, each answer, both copies.
func TestQuestions(t *testing.T) {
	s := roomy(numbers())
	d := newDuo(t, s)
	for _, id := range []string{"", "x y", "1234567890123456789", "_"} {
		d.sees(probing(0, id), isRefused(0, api.ErrForm))
		d.sees(resyncing(1, id, 0), isRefused(1, api.ErrForm))
	}
	d.sees(probing(1, "P1"), isRefused(1, api.ErrOff))
	d.sees(resyncing(1, "P1", 0), isRefused(1, api.ErrOff))
	d.sees(resyncing(0, "R1", 0), isRefused(0, api.ErrArg))
	question := out(0, "MSH|^~\\&|LAB||HIS||20260105000000||QRY^Q01|R1|P|2.5.1|-1\r")
	for _, code := range []string{"AA", "AE", "AR"} {
		for _, behind := range []string{"", "||0", "||7"} {
			for _, isProbe := range []bool{false, true} {
				d := newDuo(t, s)
				if isProbe {
					d.does(probing(0, "R1"))
				} else {
					d.sees(resyncing(0, "R1", 3), question)
				}
				d.sees(probing(0, "P2"), isRefused(0, api.ErrBusy))
				d.sees(submitting(0, message("R1", "", "")), isRefused(0, api.ErrTwice))
				d.sees(submitting(0, message("A1", "", "")))
				d.sees(probing(0, "P2"), isRefused(0, api.ErrBusy))
				d.does(ticking(0, 5))
				for _, commit := range []string{"CA", "CE", "CR"} {
					d.arrives(1, heard(commit, "R1", "||7"))
				}
				d.does(putting(1, heard(code, "R1", behind)))
				d.does(carrying(1, 0, 0))
				d.does(syncing(0))
				d.arrives(1, heard("AA", "R1", "||9"))
				d.does(syncing(0))
			}
		}
	}
	// At the responder: copies of the last -1, another one, one behind a message; with segments behind it, it is none.
	ask := func(id, number, more string) []byte {
		return framed("MSH|^~\\&|LAB||HIS||2026||QRY^Q01|" + id + "|P|2.5.1|" + number + "||AL|AL\r" + more)
	}
	for _, p := range [][]byte{
		ask("P1", "0", ""), ask("R1", "-1", ""), ask("R1", "-1", ""), framed(message("B1", "70", "")), ask("P1", "0", ""), ask("R1", "-1", ""), ask("P1", "0", ""),
		ask("R2", "-1", ""), ask("R1", "-1", ""), ask("R1", "-1", "PID|1\r"), ask("R 1", "-1", ""), ask("R1", "-1^x", ""), ask("R1", "-2", ""), framed(message("B1", "70", "")), framed(message("B2", "71", "")), ask("P1", "0", ""),
	} {
		d.does(putting(0, p))
		d.does(carrying(0, 0, 0))
		d.does(syncing(1))
	}
	// Without sequencing of that direction it is a message like any other.
	for _, number := range []string{"0", "-1"} {
		d.does(putting(1, ask("R1", number, "")))
		d.does(carrying(1, d.link.Len(1)-1, 0))
	}
}
