package world

import (
	"bytes"
	"fmt"
	"slices"
	"strconv"
	"strings"
	"testing"

	"courier/ack"
	"courier/api"
	"courier/disk"
	"courier/engine"
	"courier/tree"
)

// W2 to W6, of runs by chance; the sides are looked into for them.

// tables are a side's, and whether it is up.
func (c *chance) tables(side int) (api.Tables, bool) {
	e := c.r.sides[side].engine
	if e == nil {
		return api.Tables{}, false
	}
	return e.Image().Tables, true
}

// told is a run's story, for a failure.
func story(t *testing.T, c *chance) string {
	t.Helper()
	return printed(t, c.script()) + reported(t, c.told)
}

// commits are the control ids for which a frame is a CA, or in original mode an AA that answers a message.
func commits(frame []byte) (string, bool) {
	text := bytes.TrimSuffix(bytes.TrimPrefix(frame, []byte{0x0b}), []byte{0x1c, '\r'})
	m, err := tree.Parse(text)
	if err != nil || !ack.Is(m) {
		return "", false
	}
	a, err := ack.Read(m)
	// With a number AA is the answer to a Probe or a Resync.
	return a.For, err == nil && (a.Code == "CA" || a.Code == "AA" && !a.Enhanced && a.Expect < 0)
}

// indexIn is a message's place among those that are kept; -1: it is not.
func indexIn(list []api.InEntry, id string) int {
	return slices.IndexFunc(list, func(e api.InEntry) bool { return e.Control == id })
}

// torn is a copy of a disk behind a crash.
func torn(t *testing.T, d *disk.Disk, tears [2]api.Tear) *disk.Disk {
	t.Helper()
	var areas [2][]byte
	for area := range areas {
		all, err := d.Len(area)
		safe, _ := d.Synced(area)
		p, bad := d.Read(area, 0, all)
		if err != nil || bad != nil {
			t.Fatal(err, bad)
		}
		stay := min(tears[area].Keep, all-safe)
		zeros := min(tears[area].Zeros, all-safe-stay)
		areas[area] = append(p[:safe+stay:safe+stay], make([]byte, zeros)...)
	}
	made, err := disk.From(areas)
	if err != nil {
		t.Fatal(err)
	}
	return made
}

// isKept: behind a crash at this moment the message is kept, with the same one form and answers; a copy of it is answered with the same bytes, and is not new.
func isKept(t *testing.T, c *chance, side int, want api.InEntry, frame []byte, tears [2]api.Tear) {
	t.Helper()
	x := c.r.sides[side]
	e, _, err := engine.Open(c.r.setup, side, torn(t, x.disk, tears), x.clock)
	if err != nil || e == nil {
		t.Fatalf("Open: %v\n%s", err, story(t, c))
	}
	list := e.Image().Tables.In
	at := indexIn(list, want.Control)
	if at < 0 || !bytes.Equal(list[at].Text, want.Text) || !bytes.Equal(list[at].Commit, want.Commit) || list[at].Number != want.Number {
		t.Fatalf("%s is not kept at side %d behind %v: %+v\n%s", want.Control, side, tears, list, story(t, c))
	}
	e.Sync()
	told, err := e.Arrive([]byte("\x0b" + string(want.Text) + "\x1c\r"))
	more, bad := e.Sync()
	told = append(told, more...)
	if err != nil || bad != nil || len(told) == 0 || !bytes.Equal(told[0].Text, frame) && !(len(told) > 1 && bytes.Equal(told[1].Text, frame)) {
		t.Fatalf("a copy of %s at side %d brings %v, want %q\n%s", want.Control, side, told, frame, story(t, c))
	}
	for _, s := range told {
		if s.Kind == api.SeenDeliver {
			t.Fatalf("a copy of %s at side %d is delivered\n%s", want.Control, side, story(t, c))
		}
	}
}

// arrival is a message's acceptance at a side.
type arrival struct {
	number int // of all that the side accepted
	sent   bool
}

func TestW2(t *testing.T) {
	t.Parallel()
	counted := 0
	for seed := range seeds(200) {
		c := newChance(1002, uint64(seed), anySetup(newMaker(1002, uint64(seed)).Rand), taste{harm: 3, calm: seed%2 == 0})
		var all [2]int
		arrivals := [2]map[string]arrival{{}, {}}
		for range 120 {
			before := [2][]api.InEntry{}
			for side := range 2 {
				x, _ := c.tables(side)
				before[side] = x.In
			}
			seen := c.does(c.event())
			for _, s := range seen {
				a, there := arrivals[s.Side][s.Control]
				if s.Kind == api.SeenDeliver && !s.Again && there && a.sent && all[s.Side]-a.number <= c.r.setup.Sides[s.Side].Keep {
					t.Fatalf("%s is new again at side %d\n%s", s.Control, s.Side, story(t, c))
				}
			}
			for side := range 2 {
				x, up := c.tables(side)
				if !up {
					continue
				}
				for _, e := range x.In {
					if i := indexIn(before[side], e.Control); before[side] != nil && (i < 0 || before[side][i].Tick != e.Tick || before[side][i].Number != e.Number) {
						all[side]++
						arrivals[side][e.Control] = arrival{number: all[side]}
					}
				}
			}
			for _, s := range seen {
				if s.Kind != api.SeenOut {
					continue
				}
				id, is := commits(s.Text)
				x, up := c.tables(s.Side)
				at := indexIn(x.In, id)
				if !is || !up {
					continue
				}
				a := arrivals[s.Side][id]
				if at < 0 {
					if a.number > 0 && all[s.Side]-a.number <= c.r.setup.Sides[s.Side].Keep {
						t.Fatalf("%s is gone at side %d\n%s", id, s.Side, story(t, c))
					}
					continue
				}
				counted++
				a.sent = true
				arrivals[s.Side][id] = a
				for _, tears := range [][2]api.Tear{{}, {{Keep: area}, {Keep: area}}, c.tears(), c.tears()} {
					isKept(t, c, s.Side, x.In[at], s.Text, tears)
				}
			}
		}
	}
	if counted < seeds(200) {
		t.Errorf("%d commits", counted)
	}
}

func TestW3(t *testing.T) {
	t.Parallel()
	counted := 0
	for seed := range seeds(200) {
		c := newChance(1003, uint64(seed), anySetup(newMaker(1003, uint64(seed)).Rand), taste{harm: 2, calm: true, unlike: true})
		var settled, asked [2]map[string]bool
		var verdicts [2]map[string]int // by the side that submitted it
		for side := range 2 {
			settled[side], asked[side], verdicts[side] = map[string]bool{}, map[string]bool{}, map[string]int{}
		}
		for range 12 {
			c.goes(20)
			if c.IntN(2) == 0 {
				c.mend()
				c.calmTick()
			}
		}
		for i, e := range c.lines {
			seen := c.told[i+1]
			switch {
			case e.Kind == api.EvProbe || e.Kind == api.EvResync:
				asked[e.Side][e.Control] = true
			case e.Kind == api.EvVerdict && e.Code == "AA" && !slices.ContainsFunc(seen, func(s api.Seen) bool { return s.Kind == api.SeenRefused || s.Kind == api.SeenDown }):
				verdicts[1-e.Side][e.Control]++
			}
			for _, s := range seen {
				if s.Kind != api.SeenAnswer {
					continue
				}
				if settled[s.Side][s.Control] {
					t.Fatalf("%s is settled twice\n%s", s.Control, story(t, c))
				}
				settled[s.Side][s.Control] = true
				if s.Code == "AA" && !asked[s.Side][s.Control] {
					counted++
					verdicts[s.Side][s.Control]--
					if verdicts[s.Side][s.Control] < 0 {
						t.Fatalf("%s has no verdict\n%s", s.Control, story(t, c))
					}
				}
			}
		}
	}
	if counted < seeds(200) {
		t.Errorf("%d AAs", counted)
	}
}

// numbered messages of a side, between two Resyncs.
type counting struct {
	first []api.Seen // first deliveries, in order
}

func TestW4(t *testing.T) {
	t.Parallel()
	counted := 0
	for seed := range seeds(200) {
		s := anySetup(newMaker(1004, uint64(seed)).Rand)
		s.Sides[0].Sequence = true
		s.Sides[0].Tries, s.Sides[1].Keep = 3, 64
		c := newChance(1004, uint64(seed), s, taste{harm: 1 + seed%3, calm: true, unlike: true, still: seed%2 == 0})
		resets := [2]map[string]string{{}, {}} // of a message: the Resync ahead of it
		told := [2]map[string]*counting{{}, {}}
		for range 250 {
			e := c.event()
			if e.Kind == api.EvResync && e.Count == top {
				e.Count = 100
			}
			var before [2]api.Tables
			for side := range 2 {
				before[side], _ = c.tables(side)
			}
			seen := c.does(e)
			for side := range 2 {
				x, up := c.tables(side)
				for _, in := range x.In {
					if up && indexIn(before[side].In, in.Control) < 0 && e.Kind != api.EvRestart {
						resets[side][in.Control] = x.Reset
					}
				}
			}
			for _, d := range seen {
				if d.Kind != api.SeenDeliver || !s.Sides[1-d.Side].Sequence {
					continue
				}
				reset := resets[d.Side][d.Control]
				list := told[d.Side][reset]
				if list == nil {
					list = &counting{}
					told[d.Side][reset] = list
				}
				i := slices.IndexFunc(list.first, func(f api.Seen) bool { return f.Number == d.Number })
				switch {
				case i >= 0 && (list.first[i].Control != d.Control || !bytes.Equal(list.first[i].Text, d.Text) || !d.Again):
					t.Fatalf("number %d is another message\n%s", d.Number, story(t, c))
				case i < 0 && len(list.first) > 0 && d.Number != list.first[len(list.first)-1].Number+1,
					i < 0 && len(list.first) == 0 && reset == "" && d.Number != 1:
					t.Fatalf("number %d behind %v\n%s", d.Number, list.first, story(t, c))
				case i < 0:
					counted++
					list.first = append(list.first, d)
				}
			}
		}
	}
	if counted < seeds(200) {
		t.Errorf("%d numbers", counted)
	}
}

// told whatever becomes of it, and with so many tries that it cannot fail.
func mustBeAnswered(s api.Sent) bool {
	cond := s.Cond
	whatever := !cond.Enhanced || cond.Accept == api.CondAL && (cond.App == api.CondAL || cond.App == api.CondNE)
	return whatever && (!s.Under || s.Left > 1)
}

// mend ends all that may still go wrong: fuses, half pieces, sides that are down.
func (c *chance) mend() {
	for side := range 2 {
		x := &c.r.sides[side]
		if !x.disk.Alive() {
			c.does(api.Event{Kind: api.EvCrash, Side: side})
		}
		c.does(api.Event{Kind: api.EvFuse, Side: side, Count: -1})
		if x.engine == nil {
			c.does(api.Event{Kind: api.EvRestart, Side: side})
		}
		if half := c.r.link.Half(side); half >= 0 {
			c.does(api.Event{Kind: api.EvCarry, Side: side, Index: half})
		}
	}
}

// calm lets all arrive and be answered, within the tick.
func (c *chance) calmTick() {
	for moved := true; moved; {
		moved = false
		for side := range 2 {
			c.does(api.Event{Kind: api.EvSync, Side: side})
			for c.r.link.Len(side) > 0 {
				c.does(api.Event{Kind: api.EvCarry, Side: side})
				moved = true
			}
			for _, id := range c.r.sides[side].engine.Image().Open {
				c.does(api.Event{Kind: api.EvVerdict, Side: side, Control: id, Code: oneOf(c, "AA", "AE", "AR")})
				moved = true
			}
		}
	}
}

func TestW5(t *testing.T) {
	t.Parallel()
	counted := 0
	for seed := range seeds(200) {
		c := chanced(1005, uint64(seed), taste{harm: 2, calm: seed%2 == 0, still: seed%4 == 0, unlike: true}, 100)
		c.mend()
		for side := range 2 { // what waits leaves: the messages under way are then all that there are
			c.does(api.Event{Kind: api.EvSync, Side: side})
		}
		type owed struct {
			by     int
			answer bool
		}
		var due [2]map[string]owed
		from := len(c.told)
		var latest int
		for side := range 2 {
			due[side] = map[string]owed{}
			own, image := c.r.setup.Sides[side], c.r.sides[side].engine.Image()
			wait := (own.Tries + 2) * own.Every
			turns := 0
			if image.Link.Control != "" {
				turns++
				due[side][image.Link.Control] = owed{by: wait}
			}
			for _, s := range image.Sent {
				turns++
				by := wait
				if own.Sequence {
					by = turns * wait
				}
				// Numbers may come to their end by a Resync, asked or put on the link.
				due[side][s.Control] = owed{by, mustBeAnswered(s) && c.calm && c.still && image.Tables.Next != 0 && image.Tables.Next < 1000}
				latest = max(latest, by)
			}
			latest = max(latest, wait)
		}
		for tick := range latest + 1 {
			c.calmTick()
			for _, list := range c.told[from:] {
				for _, s := range list {
					if s.Kind == api.SeenDown {
						t.Fatalf("down\n%s", story(t, c))
					}
					o, is := due[s.Side][s.Control]
					if s.Kind != api.SeenAnswer || !is {
						continue
					}
					counted++
					if tick > o.by {
						t.Fatalf("%s is settled at %d, by %d\n%s", s.Control, tick, o.by, story(t, c))
					}
					if o.answer && s.State == api.StateFailed {
						t.Fatalf("%s has failed\n%s", s.Control, story(t, c))
					}
					delete(due[s.Side], s.Control)
				}
			}
			from = len(c.told)
			c.does(api.Event{Kind: api.EvTick, Side: both, Count: 1})
		}
		c.calmTick()
		for side := range 2 {
			if len(due[side]) > 0 {
				// A crash between a record and its telling loses the telling: it may be settled untold.
				for id := range due[side] {
					if slices.ContainsFunc(c.r.sides[side].engine.Image().Sent, func(s api.Sent) bool { return s.Control == id }) {
						t.Fatalf("%s is outstanding\n%s", id, story(t, c))
					}
				}
			}
		}
	}
	if counted < seeds(200) {
		t.Errorf("%d settled", counted)
	}
}

// wrongFrames are such as bring nothing, or one reply.
func (c *chance) wrongFrame() string {
	swap := func(text, old, with string) string { return strings.Replace(text, old, with, 1) }
	good := "MSH|^~\\&|LAB||HIS||2026||ADT^A01|W1|P|2.5.1|||" + oneOf(c, "", "AL|AL", "NE|NE", "ER|AL", "SU|NE", "|AL") + "\r"
	return oneOf(c, "", "x", "\r", "nothing", "MSH", "MSH|^~\\&\r", "PID|1\r", "MSH|^~\\&|x\ry\r",
		swap(good, "ADT^A01", oneOf(c, "ADT^A02", "ADT", "", "ORU^R01", "ADT^A01^X")),
		swap(good, "|P|", oneOf(c, "|T^|", "||", "|Q|", "|P&x|")),
		swap(good, "|2.5.1|", oneOf(c, "|2.4|", "||", "|2.5.1&x|")),
		swap(good, "|W1|", oneOf(c, "||", "|W 1|", "|W1^x|", "|"+strings.Repeat("W", 19)+"|")),
		good+"NK1|1\r", good+"ZZZ\t\r", good+"MSH|^~\\&\r", good+"PID|"+strings.Repeat("1", 9000)+"\r",
		swap(good, "|W1|", "|W1|\x00"), "\xff"+good, good+good,
		"MSH|^~\\&|LAB||HIS||2026||ADT^A01|W1|P|2.5.1|||"+oneOf(c, "XX", "AL|al", "AL^AL|AL", "XX|AL")+"\r", swap(good, "\r", "|x\r")+"NK1\r",
		"MSH|^~\\&|HIS||LAB||2026||ACK|X1|P|2.5.1\rMSA|"+oneOf(c, "AA", "CA", "ZZ", "", "AE")+"|none\r",
	)
}

func TestW6(t *testing.T) {
	t.Parallel()
	replies := 0
	for seed := range seeds(100) {
		s := anySetup(newMaker(1006, uint64(seed)).Rand)
		for side := range s.Sides {
			s.Sides[side].Process = "P"
		}
		c := newChance(1006, uint64(seed), s, taste{harm: 2})
		for range 30 {
			c.goes(5)
			c.mend()
			side := c.IntN(2)
			for c.r.link.Len(1-side) > 200 {
				c.does(api.Event{Kind: api.EvDrop, Side: 1 - side})
			}
			c.does(api.Event{Kind: api.EvRaw, Side: 1 - side, Text: []byte("\x1c\r")}) // the end of what is half there
			c.does(api.Event{Kind: api.EvCarry, Side: 1 - side, Index: c.r.link.Len(1-side) - 1})
			frame := "\x0b" + c.wrongFrame() + "\x1c\r"
			before := c.r.sides[side].engine.Image()
			var seen []api.Seen
			for len(frame) > 0 {
				n := min(len(frame), 8195)
				c.does(api.Event{Kind: api.EvRaw, Side: 1 - side, Text: []byte(frame[:n])})
				seen = append(seen, c.does(api.Event{Kind: api.EvCarry, Side: 1 - side, Index: c.r.link.Len(1-side) - 1})...)
				frame = frame[n:]
			}
			after := c.r.sides[side].engine.Image()
			if fmt.Sprint(after.Tables) != fmt.Sprint(before.Tables) || after.Written != before.Written {
				t.Fatalf("%v\nwere %v\n%s", after.Tables, before.Tables, story(t, c))
			}
			made := len(after.Held) - len(before.Held)
			for _, s := range seen {
				if s.Kind != api.SeenLost {
					made++
				}
			}
			if made < 0 || made > 1 || made == 1 && len(after.Held) > 0 && after.Held[len(after.Held)-1].Seen.Kind != api.SeenOut {
				t.Fatalf("%d things more\n%s", made, story(t, c))
			}
			replies += made
		}
	}
	if replies < 100 && !testing.Short() {
		t.Errorf("%d replies", replies)
	}
}

// W5 by a script: three messages, one behind the other, within three times (Tries + 2) times Every.
func TestW5Numbers(t *testing.T) {
	lines := ""
	for i := range 3 {
		lines += "submit 0 " + quotes("A"+strconv.Itoa(i), "AL NE") + "\n"
	}
	lines += "sync 0\ncrash 0 0 0 0 0\ndrop 0 0\nrestart 0\nsync 0\n" + strings.Repeat("carry 0 0 0\nsync 1\ncarry 1 0 0\nsync 0\n", 3)
	report := Play(numbered() + lines)
	for i := range 3 {
		if want := " answer 0 A" + strconv.Itoa(i) + " answered CA\n"; strings.Count(report, want) != 1 {
			t.Errorf("%s", report)
		}
	}
}
