package world

import (
	"math/rand/v2"
	"strconv"
	"strings"

	"courier/api"
)

// chance says what happens next in a run: events that lines say, most of which do something.
type chance struct {
	*rand.Rand
	r     *run
	told  [][]api.Seen
	lines []api.Event
	taste
	ids int // that were made
}

// taste says of which kinds a run's events are.
type taste struct {
	harm   int  // of 100 events, how many are crashes, and how many fuses
	calm   bool // no bytes that no side sent are put on the link
	unlike bool // no control id comes twice
	still  bool // no Probes and Resyncs are asked
}

func oneOf[T any](c *chance, list ...T) T { return list[c.IntN(len(list))] }

// anySetup gives setups in which much happens early: short intervals, few tries, few kept, logs that are compacted soon.
func anySetup(c *rand.Rand) api.Setup {
	s := plainSetup()
	s.Profile = "table 0001 = F M ;\nsegment PID = 1 SI O ; 3 CX O max 2 ; 8 IS O in 0001 ; end\nmessage ADT A01 = MSH [ PID ] end\nmessage ADT A08 ADT_A01 = MSH { PID } end\n"
	for i := range s.Sides {
		x := &s.Sides[i]
		x.Sequence = c.IntN(2) == 0
		x.Every, x.Tries, x.Keep = 1+c.IntN(6), c.IntN(4), 1+c.IntN(3)
		x.Compact = []int{1, 2, 3, 5, 9, 256}[c.IntN(6)]
		x.Facility = []string{"", "NORTH-1"}[c.IntN(2)]
		x.Process = []string{"P", "P", "T"}[c.IntN(3)]
		if c.IntN(4) == 0 {
			x.Marks = api.Marks{Field: '!', Comp: '-', Rep: '~', Esc: '.', Sub: '&'}
		}
	}
	return s
}

// id is one of these, or one that was not there yet.
func (c *chance) id(list ...string) string {
	if c.unlike {
		c.ids++
		return "M" + strconv.Itoa(c.ids)
	}
	return oneOf(c, list...)
}

func (c *chance) conditions() (string, string) {
	words := strings.Split(oneOf(c, " ", " ", "AL AL", "AL AL", "AL NE", "NE AL", "ER ER", "SU SU", "NE NE", "AL ER", "SU ER", "NE ER", "ER NE", "AL ", " AL"), " ")
	return words[0], words[1]
}

// message gives the text of a message that the other side takes, if nothing is wrong with it.
func (c *chance) message(side int, number string) string {
	accept, app := c.conditions()
	id := c.id("A", "B", "C", "D", "E.", "F-9", "aa", "12345678901234567-")
	kind, rest := "ADT^A01", oneOf(c, "", "", "PID|1\r", "PID|2||a~b\r")
	if c.IntN(5) == 0 {
		kind, rest = "ADT^A08^ADT_A01", "PID|1||x^^^y\r"
	}
	head := "MSH|^~\\&|LAB|W|HIS||2026||" + kind + "|" + id + "|" + c.r.setup.Sides[1-side].Process + "|2.5.1|" + number + "||" + accept + "|" + app
	return strings.TrimRight(head, "|") + "\r" + rest
}

// spoilt gives a message with which something is wrong, often.
func (c *chance) spoilt(text string) string {
	swap := func(old, with string) string { return strings.Replace(text, old, with, 1) }
	switch c.IntN(20) {
	case 0:
		return swap("ADT^A", oneOf(c, "ADT^B", "ORU^A", "ADT", "^", "ADT&x^A", "ADT^A01&x^A"))
	case 1:
		return swap("|P|", oneOf(c, "|T|", "|D|", "|P^x|", "|P~x|", "||"))
	case 2:
		return swap("|2.5.1", oneOf(c, "|2.4", "|2.5.1^x", "|2.5.1&x"))
	case 3:
		return swap("2026||", "2026||"+oneOf(c, "x", "^", "|", "\t"))
	case 4:
		return text + oneOf(c, "NK1|x\r", "PID|1|x\r", "PID|1||||||||Q\r", "PID|y\r", "ZZZ|1\r", "PID|\t\r", "pid\r", "MSH|x\r", "MSA|AA|A\r")
	case 5:
		return swap("LAB", oneOf(c, "L\tAB", "LAB2", "L\\F\\B", "L\\Q\\B"))
	case 6:
		return swap("||AL", oneOf(c, "||al", "||AL^x", "||\\H\\", "||XX|YY"))
	case 7:
		return swap("|A|", oneOf(c, "||", "|A B|", "|A^x|", "|A&\\H\\|", "|\\H\\A|", "|1234567890123456789|"))
	case 8:
		return strings.TrimSuffix(text, "\r")
	case 9:
		return strings.Repeat("x", c.IntN(30)) + text
	case 10:
		return strings.TrimSuffix(text, "\r") + "|" + strings.Repeat("y", 8100+c.IntN(200)) + oneOf(c, "", "\r")
	case 11:
		return strings.ReplaceAll(strings.ReplaceAll(text, "|", "!"), "^", "+")
	case 12:
		return swap("2.5.1|", "2.5.1|"+oneOf(c, "\\H\\", "1", "x", "^x"))
	}
	return text
}

// number is an MSH-13 for a message that comes in to a side.
func (c *chance) number(side int) string {
	e := c.r.sides[side].engine
	if e == nil || !c.r.setup.Sides[1-side].Sequence && c.IntN(4) > 0 {
		return ""
	}
	expects := e.Image().Tables.Expects
	return oneOf(c, strconv.Itoa(max(expects, 1)), strconv.Itoa(max(expects, 1)), strconv.Itoa(expects+1), strconv.Itoa(max(expects-1, 1)), "2147483647", "2147483646", "", "0", "-1", "01", "+1", "2147483648")
}

// heard gives an acknowledgement for something of a side.
func (c *chance) heard(side int) string {
	ids := []string{"A", "Q1"}
	if e := c.r.sides[side].engine; e != nil {
		x := e.Image()
		for _, s := range x.Sent {
			ids = append(ids, s.Control, s.Control)
		}
		if x.Link.Control != "" {
			ids = append(ids, x.Link.Control, x.Link.Control, x.Link.Control)
		}
	}
	text := "MSH|^~\\&|HIS||LAB||2026||ACK|X1|P|2.5.1\rMSA|" + oneOf(c, "CA", "CA", "CE", "CR", "AA", "AA", "AE", "AR", "ZZ") + "|" + oneOf(c, ids...)
	if c.IntN(3) > 0 {
		text += "||" + oneOf(c, "0", "1", "2", "3", "4", "5", "2147483647", "x", "-1")
	}
	text += "\r"
	for range c.IntN(3) {
		text += "ERR||" + oneOf(c, "MSH^1^13^1|207", "MSH^1^13^1|207", "|101", "x^|207") + "^^HL70357|E\r"
	}
	return text
}

// asked gives a Probe or Resync as the side might write it.
func (c *chance) asked() string {
	return "MSH|^~\\&|LAB||HIS||2026||QRY^Q01|" + oneOf(c, "Q1", "Q2", "R1", "R2") + "|P|2.5.1|" + oneOf(c, "0", "-1", "-1") + "\r"
}

// raw gives bytes to put under way from a side.
func (c *chance) rawBytes(side int) []byte {
	text := ""
	switch c.IntN(6) {
	case 0, 1:
		text = c.heard(1 - side)
	case 2:
		text = c.asked()
	case 3:
		return []byte(oneOf(c, "\x0b", "\x1c\r", "\r", "\x0b\x0b", "noise", "\x0bMSH|^~\\&\x1c\r", "\x0b\x1c\r", "\x0bhalf", "\x1c"))
	default:
		text = c.spoilt(c.message(side, c.number(1-side)))
	}
	framed := "\x0b" + text + "\x1c\r"
	if c.IntN(8) == 0 {
		framed = framed[c.IntN(3):]
	}
	return []byte(framed[:min(len(framed), 8195)])
}

func (c *chance) tears() [2]api.Tear {
	tear := func() api.Tear { return api.Tear{Keep: c.IntN(300), Zeros: c.IntN(100)} }
	all := api.Tear{Keep: api.MaxArea}
	return oneOf(c, [2]api.Tear{}, [2]api.Tear{all, all}, [2]api.Tear{tear(), tear()}, [2]api.Tear{tear(), tear()}, [2]api.Tear{all, {}}, [2]api.Tear{{}, all}, [2]api.Tear{{Zeros: 5}, {Zeros: 9}})
}

// findings are an application's, of which layer 10 calls some not right.
func (c *chance) findings() []api.Finding {
	list := []api.Finding{{Code: 101, Seg: "PID", Occur: 1, Field: 3}, {Code: 207}, {Code: 99}}
	return list[:oneOf(c, 0, 0, 1, 2, 3)]
}

func (c *chance) verdict(side int) api.Event {
	ids := []string{"A", "none", "x#y"}
	if e := c.r.sides[side].engine; e != nil {
		for _, id := range e.Image().Open {
			ids = append(ids, id, id, id)
		}
	}
	e := api.Event{Kind: api.EvVerdict, Side: side, Control: oneOf(c, ids...), Code: oneOf(c, "AA", "AA", "AE", "AR", "CA", "-")}
	if e.Code != "AA" || c.IntN(5) == 0 {
		e.Errors = c.findings()
	}
	return e
}

// onLink is an event of what is under way from a side.
func (c *chance) onLink(side int) api.Event {
	flight := c.r.link.Flight(side)
	e := api.Event{Kind: api.EvCarry, Side: side, Index: c.IntN(len(flight) + 1)}
	left := 1
	if half := c.r.link.Half(side); half >= 0 && c.IntN(4) > 0 {
		e.Index = half
	}
	if e.Index < len(flight) {
		left = len(flight[e.Index])
	}
	switch c.IntN(16) {
	case 0:
		e.Kind = api.EvDrop
	case 1:
		e.Kind = api.EvDouble
	case 2:
		e.Kind, e.Count = api.EvClip, c.IntN(left+2)
	case 3, 4, 5:
		e.Count = c.IntN(left + 2)
	}
	return e
}

// event is the next one.
func (c *chance) event() api.Event {
	side := c.IntN(2)
	if len(c.r.link.Flight(0)) < len(c.r.link.Flight(1)) != (side == 1) && c.IntN(2) == 0 {
		side = 1 - side
	}
	e := api.Event{Side: side}
	if c.r.sides[side].engine == nil && c.IntN(3) > 0 {
		e.Kind = api.EvRestart
		if !c.r.sides[side].disk.Alive() {
			e.Kind, e.Tears = api.EvCrash, c.tears()
		} else if c.IntN(4) == 0 {
			e.Kind, e.Count = api.EvFuse, c.IntN(4)-1
		}
		return e
	}
	switch n := c.IntN(100); {
	case n < c.harm:
		e.Kind, e.Tears = api.EvCrash, c.tears()
	case n < 2*c.harm:
		e.Kind, e.Count = api.EvFuse, c.IntN(16)-1
	default:
		return c.harmless(e)
	}
	return e
}

// harmless is an event that brings no disk to an end by itself.
func (c *chance) harmless(e api.Event) api.Event {
	side := e.Side
	switch n := c.IntN(96); {
	case n < 14:
		e.Kind, e.Text = api.EvSubmit, []byte(c.message(side, ""))
		if c.IntN(6) == 0 {
			e.Text = []byte(c.spoilt(string(e.Text)))
		}
	case n < 26:
		return c.verdict(side)
	case n < 34:
		e = api.Event{Kind: api.EvTick, Side: c.IntN(3), Count: 1 + c.IntN(4)}
		if c.IntN(20) == 0 {
			e.Count = oneOf(c, 60, 1000, 100000)
		}
	case n < 50:
		e.Kind = api.EvSync
	case n < 52:
		e.Kind = api.EvCompact
	case n < 55 && !c.still:
		e.Kind, e.Control = api.EvProbe, c.id("P1", "P2", "A", "x_y")
	case n < 57 && !c.still:
		e.Kind, e.Control, e.Count = api.EvResync, c.id("R1", "R2"), oneOf(c, 0, 1, 2, 70, 2147483647)
	case n < 58:
		e.Kind, e.Text = api.EvNoise, []byte(oneOf(c, "x", "noise", "\x0b", ""))
	case n < 63 && !c.calm:
		e.Kind, e.Text = api.EvRaw, c.rawBytes(side)
	default:
		return c.onLink(side)
	}
	return e
}

// newChance begins a run in which things happen by chance.
func newChance(one, two uint64, s api.Setup, how taste) *chance {
	r, seen := begin(s)
	return &chance{Rand: rand.New(rand.NewPCG(one, two)), r: r, told: [][]api.Seen{seen}, taste: how}
}

// does plays an event.
func (c *chance) does(e api.Event) []api.Seen {
	seen := c.r.play(e)
	c.lines, c.told = append(c.lines, e), append(c.told, seen)
	return seen
}

// goes plays so many events.
func (c *chance) goes(count int) {
	for range count {
		c.does(c.event())
	}
}

func (c *chance) script() api.Script { return api.Script{Setup: c.r.setup, Events: c.lines} }

// chanced gives what so many events by chance have become, in a setup by chance.
func chanced(one, two uint64, how taste, count int) *chance {
	c := newChance(one, two, anySetup(rand.New(rand.NewPCG(two, one))), how)
	c.goes(count)
	return c
}
