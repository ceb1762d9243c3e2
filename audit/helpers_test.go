package audit

import (
	"encoding/binary"
	"errors"
	"fmt"
	"slices"
	"strconv"
	"strings"
	"testing"

	"courier/api"
)

const (
	latest = 1099511627776 // MaxTick
	top    = 2147483647    // MaxNumber
	area   = 16777216      // MaxArea
	most   = 4096          // MaxWays
)

var common = api.Marks{Field: '|', Comp: '^', Rep: '~', Esc: '\\', Sub: '&'}

// plainSetup is the setup of DOC.md's examples.
func plainSetup() api.Setup {
	a := api.Side{App: "LAB", Marks: common, Process: "P", Every: 5, Tries: 1, Keep: 1, Compact: 9}
	b := a
	b.App = "HIS"
	return api.Setup{Start: "20260105000000", Version: "2.5.1", Sides: [2]api.Side{a, b}, Profile: "message ADT A01 = MSH [ PID ] end\n"}
}

// numbers is that setup, with sequencing on side 0.
func numbers() api.Setup {
	s := plainSetup()
	s.Sides[0].Sequence = true
	return s
}

// roomy is a setup whose logs are not compacted by themselves, and that keeps all.
func roomy(s api.Setup) api.Setup {
	for i := range s.Sides {
		s.Sides[i].Compact, s.Sides[i].Keep = 256, 64
	}
	return s
}

// message gives the text of one: MSH-10, MSH-13, the words of MSH-15 and MSH-16, and further segments.
func message(id, number, conditions string, more ...string) string {
	accept, app, _ := strings.Cut(conditions, " ")
	head := "MSH|^~\\&|LAB||HIS||2026||ADT^A01|" + id + "|P|2.5.1|" + number + "||" + accept + "|" + app
	return strings.Join(append([]string{strings.TrimRight(head, "|")}, more...), "\r") + "\r"
}

func framed(text string) []byte { return []byte("\x0b" + text + "\x1c\r") }

// reply gives the text of an acknowledgement by side 1 of a message of side 0, at the beginning: what stands behind MSA-2, and the ERRs. A code with a + is under enhanced mode.
func reply(code, id, behind string, reports ...string) string {
	conditions := ""
	if code[0] == 'C' || strings.HasSuffix(code, "+") {
		conditions, code = "|||NE|NE", strings.TrimSuffix(code, "+")
	}
	head := "MSH|^~\\&|HIS||LAB||20260105000000||ACK^A01^ACK|" + code[:1] + id + "|P|2.5.1" + conditions
	list := []string{head, "MSA|" + code + "|" + id + behind}
	for _, r := range reports {
		list = append(list, "ERR||"+r)
	}
	return strings.Join(list, "\r") + "\r"
}

// report gives an ERR's end: a code at a field of the MSH.
func report(code, field int) string {
	return "MSH^1^" + strconv.Itoa(field) + "^1|" + strconv.Itoa(code) + "^^HL70357|E"
}

// heard gives the frame of an acknowledgement as the other side might write it.
func heard(code, id, behind string, segments ...string) []byte {
	list := append([]string{"MSH|^~\\&|HIS||LAB||2026||ACK|X1|P|2.5.1", "MSA|" + code + "|" + id + behind}, segments...)
	return framed(strings.Join(list, "\r") + "\r")
}

// Events.

func of(kind api.EventKind, side int) api.Event { return api.Event{Kind: kind, Side: side} }

func submitting(side int, text string) api.Event {
	return api.Event{Kind: api.EvSubmit, Side: side, Text: []byte(text)}
}

func judging(side int, id, code string, found ...api.Finding) api.Event {
	return api.Event{Kind: api.EvVerdict, Side: side, Control: id, Code: code, Errors: found}
}

func ticking(side, n int) api.Event { return api.Event{Kind: api.EvTick, Side: side, Count: n} }

func syncing(side int) api.Event { return of(api.EvSync, side) }

func fusing(side, n int) api.Event { return api.Event{Kind: api.EvFuse, Side: side, Count: n} }

// crashing keeps so many bytes of each area's tail.
func crashing(side, first, second int) api.Event {
	return api.Event{Kind: api.EvCrash, Side: side, Tears: [2]api.Tear{{Keep: first}, {Keep: second}}}
}

func restarting(side int) api.Event { return of(api.EvRestart, side) }

func probing(side int, id string) api.Event {
	return api.Event{Kind: api.EvProbe, Side: side, Control: id}
}

func resyncing(side int, id string, next int) api.Event {
	return api.Event{Kind: api.EvResync, Side: side, Control: id, Count: next}
}

func carrying(side, index, n int) api.Event {
	return api.Event{Kind: api.EvCarry, Side: side, Index: index, Count: n}
}

func dropping(side, index int) api.Event {
	return api.Event{Kind: api.EvDrop, Side: side, Index: index}
}

func doubling(side, index int) api.Event {
	return api.Event{Kind: api.EvDouble, Side: side, Index: index}
}

func clipping(side, index, n int) api.Event {
	return api.Event{Kind: api.EvClip, Side: side, Index: index, Count: n}
}

func putting(side int, p []byte) api.Event {
	return api.Event{Kind: api.EvRaw, Side: side, Text: p}
}

// What is seen.

func out(side int, text string) api.Seen {
	return api.Seen{Kind: api.SeenOut, Side: side, Text: framed(text)}
}

func delivered(side int, id string, number int, text string) api.Seen {
	return api.Seen{Kind: api.SeenDeliver, Side: side, Control: id, Number: number, Text: []byte(text)}
}

func again(s api.Seen) api.Seen {
	s.Again = true
	return s
}

func answered(side int, id, code string, found ...api.Finding) api.Seen {
	return api.Seen{Kind: api.SeenAnswer, Side: side, Control: id, State: 1, Code: code, Errors: found}
}

func closed(side int, id string) api.Seen {
	return api.Seen{Kind: api.SeenAnswer, Side: side, Control: id, State: 2}
}

func failed(side int, id string) api.Seen {
	return api.Seen{Kind: api.SeenAnswer, Side: side, Control: id, State: 3}
}

func isRefused(side int, code api.Errno) api.Seen {
	return api.Seen{Kind: api.SeenRefused, Side: side, Errno: code}
}

func isLost(side int) api.Seen { return api.Seen{Kind: api.SeenLost, Side: side} }

// told writes lists so that they are in the order of P2103 just as the texts are by bytes; so lists that are the same have one text.
func told(seen []api.Seen) string {
	var b []byte
	number := func(list ...int) {
		for _, n := range list {
			b = binary.BigEndian.AppendUint64(b, uint64(n)+1<<63)
		}
	}
	text := func(s string) {
		b = append(b, strings.ReplaceAll(s, "\x00", "\x00\xff")...)
		b = append(b, 0, 1)
	}
	for _, s := range seen {
		number(int(s.Kind), s.Side)
		text(string(s.Text))
		text(s.Control)
		number(s.Number, strings.Index("ft", strconv.FormatBool(s.Again)[:1]), s.State)
		text(s.Code)
		for _, f := range s.Errors {
			b = append(b, 1)
			number(f.Code)
			text(f.Seg)
			number(f.Occur, f.Field, f.Rep, f.Comp, f.Sub)
		}
		b = append(b, 0)
		number(int(s.Errno))
	}
	return string(b)
}

func same(a, b []api.Seen) bool { return told(a) == told(b) }

func shown(seen []api.Seen) string {
	text := ""
	for _, s := range seen {
		text += fmt.Sprintf("  kind %d side %d %q %q number %d again %v state %d code %q %v errno %d\n", s.Kind, s.Side, s.Text, s.Control, s.Number, s.Again, s.State, s.Code, s.Errors, s.Errno)
	}
	return text
}

func shownAll(lists [][]api.Seen) string {
	text := ""
	for _, l := range lists {
		text += "{\n" + shown(l) + "}\n"
	}
	return text
}

// isFault: the error is this layer's with that number and place, and nothing under it.
func isFault(t *testing.T, what string, err error, code api.Errno, at int) {
	t.Helper()
	var f *api.Fault
	if !errors.As(err, &f) || *f != (api.Fault{Layer: "audit", At: at, Code: code}) || !errors.Is(err, code) {
		t.Fatalf("%s: %v, want number %d at %d", what, err, code, at)
	}
}

// seeds are so many beginnings of what is left to chance, few in a short test.
func seeds(most int) int {
	if testing.Short() {
		return most / 10
	}
	return most
}

func begun(t *testing.T, s api.Setup) *Pair {
	t.Helper()
	p, err := New(s)
	if p == nil || err != nil {
		t.Fatalf("New: %v", err)
	}
	return p
}

// may: May tells just these lists, in this order.
func may(t *testing.T, p *Pair, e api.Event, want ...[]api.Seen) {
	t.Helper()
	got, err := p.May(e)
	if err != nil || !slices.EqualFunc(got, want, same) {
		t.Fatalf("May of %+v %q: %v\n%swant\n%s", e, e.Text, err, shownAll(got), shownAll(want))
	}
}

// steps: Step takes this list.
func steps(t *testing.T, p *Pair, e api.Event, seen ...api.Seen) {
	t.Helper()
	if err := p.Step(e, seen); err != nil {
		t.Fatalf("Step of %+v %q: %v\n%s", e, e.Text, err, shown(seen))
	}
}

// goes: May tells just this list, and Step takes it.
func goes(t *testing.T, p *Pair, e api.Event, seen ...api.Seen) {
	t.Helper()
	may(t, p, e, seen)
	steps(t, p, e, seen...)
}

// duo is a world with a Pair beside it. Nothing is chosen in it: what is seen is all that may be.
type duo struct {
	*world
	p      *Pair
	events []api.Event
	seen   [][]api.Seen
}

func newDuo(t *testing.T, s api.Setup) *duo {
	t.Helper()
	w, seen := newWorld(t, s)
	return &duo{world: w, p: begun(t, s), seen: [][]api.Seen{seen}}
}

// does: the Pair tells of the event what the world shows.
func (d *duo) does(e api.Event) []api.Seen {
	d.t.Helper()
	seen := d.play(e)
	goes(d.t, d.p, e, seen...)
	d.events, d.seen = append(d.events, e), append(d.seen, seen)
	return seen
}

// agrees: the Pair's one state is what the world is.
func (d *duo) agrees() {
	d.t.Helper()
	if len(d.p.spots) != 1 {
		d.t.Fatalf("%d states", len(d.p.spots))
	}
	at := d.p.spots[0]
	for side, e := range d.engines {
		x := d.p.sides[at.sides[side]]
		if x.now != d.clocks[side] || x.up != (e != nil) || x.dead == d.disks[side].Alive() || x.fuse != d.fuses[side] {
			d.t.Fatalf("side %d: clock %d, up %v, dead %v, fuse %d", side, x.now, x.up, x.dead, x.fuse)
		}
		if e == nil {
			continue
		}
		want := e.Image()
		want.Counts = api.Counts{}
		if got := fmt.Sprintf("%+v", imageOf(x)); got != fmt.Sprintf("%+v", want) {
			d.t.Fatalf("side %d is\n%s\nwant\n%+v", side, got, want)
		}
	}
	f := d.p.flights[at.flight]
	for side := range 2 {
		if fmt.Sprint(f.pieces[side], f.half[side]) != fmt.Sprint(d.link.Flight(side), d.link.Half(side)) {
			d.t.Fatalf("under way from %d: %q, broken %d", side, f.pieces[side], f.half[side])
		}
	}
}

// imageOf is an endpoint as an engine tells itself.
func imageOf(x *endpoint) api.EngineImage {
	i := api.EngineImage{
		Now: x.now, Tables: x.tables, Written: x.written, Safe: x.safe, Held: x.held, Link: x.link.LinkWait, Open: x.delivered,
		Frame: api.Deframing{Inside: x.frame.inside, Ending: x.frame.ending, Held: len(x.frame.kept), Size: x.frame.size, Garbage: x.frame.garbage},
	}
	for at, o := range x.tables.Out {
		i.Sent = append(i.Sent, api.Sent{Out: o, Want: x.sent[at].Want, Under: x.sent[at].under})
		i.Dues = append(i.Dues, x.sent[at].due)
	}
	return i
}

// sees: it is just this.
func (d *duo) sees(e api.Event, want ...api.Seen) {
	d.t.Helper()
	if seen := d.does(e); !same(seen, want) {
		d.t.Fatalf("%+v %q: seen\n%swant\n%s", e, e.Text, shown(seen), shown(want))
	}
}

// arrives puts a frame under way from a side, behind nothing, and lets it arrive.
func (d *duo) arrives(side int, p []byte, want ...api.Seen) {
	d.t.Helper()
	d.sees(putting(side, p))
	d.sees(carrying(side, d.link.Len(side)-1, 0), want...)
}
