package engine

import (
	"fmt"
	"math/rand/v2"
	"slices"
	"strings"
	"testing"

	"courier/api"
	"courier/disk"
)

// P1814; what holds everywhere: memory, one answer, no panic.

// roomyBytes gives a byte string with room behind it.
func roomyBytes(text string) []byte { return append(make([]byte, 0, len(text)+40), text...) }

// spoil writes over a byte string and the room behind it.
func spoil(b []byte) {
	b = b[:cap(b)]
	for i := range b {
		b[i] = '!'
	}
}

func spoilFindings(list []api.Finding) {
	list = list[:cap(list)]
	for i := range list {
		list[i] = api.Finding{Code: 999, Seg: "XXX"}
	}
}

func spoilSeen(list []api.Seen) {
	for _, s := range list {
		spoil(s.Text)
		spoilFindings(s.Errors)
	}
	list = list[:cap(list)]
	for i := range list {
		list[i] = api.Seen{Kind: 99, Control: "spoilt"}
	}
}

func spoilImage(x api.EngineImage) {
	for _, o := range x.Tables.Out {
		spoil(o.Text)
	}
	for _, e := range x.Tables.In {
		spoil(e.Text)
		spoil(e.Commit)
		spoil(e.Answer)
	}
	for _, h := range x.Held {
		spoil(h.Seen.Text)
		spoilFindings(h.Seen.Errors)
	}
	for _, s := range x.Sent {
		spoil(s.Text)
	}
	clear(x.Tables.Out[:cap(x.Tables.Out)])
	clear(x.Tables.In[:cap(x.Tables.In)])
	clear(x.Held[:cap(x.Held)])
	clear(x.Sent[:cap(x.Sent)])
	clear(x.Dues[:cap(x.Dues)])
	clear(x.Open[:cap(x.Open)])
}

// textsOf are all byte strings of an answer and an image.
func textsOf(seen []api.Seen, x api.EngineImage) [][]byte {
	var all [][]byte
	for _, s := range seen {
		all = append(all, s.Text)
	}
	for _, h := range x.Held {
		all = append(all, h.Seen.Text)
	}
	for _, o := range x.Tables.Out {
		all = append(all, o.Text)
	}
	for _, e := range x.Tables.In {
		all = append(all, e.Text, e.Commit, e.Answer)
	}
	for _, s := range x.Sent {
		all = append(all, s.Text)
	}
	return all
}

// call is a step of a story: its arguments are made anew for each engine.
type call struct {
	kind  string
	text  string
	id    string
	found []api.Finding
	n     int
}

// do plays a step. With spoiling what was handed in is written over.
func (x call) do(e *Engine, spoiling bool) ([]api.Seen, error) {
	p := roomyBytes(x.text)
	found := append(make([]api.Finding, 0, len(x.found)+3), x.found...)
	if spoiling {
		defer spoil(p)
		defer spoilFindings(found)
	}
	switch x.kind {
	case "submit":
		return e.Submit(p)
	case "arrive":
		return e.Arrive(p)
	case "verdict":
		return e.Verdict(x.id, x.text, found)
	case "tick":
		return e.Tick(x.n)
	case "probe":
		return e.Probe(x.id)
	case "resync":
		return e.Resync(x.id, x.n)
	case "compact":
		return e.Compact()
	}
	return e.Sync()
}

func story() []call {
	in := func(text string) call { return call{kind: "arrive", text: string(framed(text))} }
	ack := func(p []byte) call { return call{kind: "arrive", text: string(p)} }
	findings := []api.Finding{{Code: 101, Seg: "PID", Occur: 1}, {Code: 207}}
	return []call{
		{kind: "submit", text: always("B1")},
		{kind: "submit", text: message("B2", "", "", "", "PID|1")},
		in(of("A1", "1", "AL AL")),
		in(of("A1", "1", "AL AL")),
		in(message("A9", "", "AL", "AL", "NK1")),
		{kind: "sync"},
		in(of("A1", "1", "AL AL")),
		{kind: "verdict", id: "A1", text: "AE", found: findings},
		{kind: "verdict", id: "A1", text: "AE", found: findings},
		in(of("A2", "2", "")),
		{kind: "arrive", text: "\x0bMSH|^~\\&|half"},
		{kind: "tick", n: 5},
		{kind: "sync"},
		ack(heard("CA", "B1", "")),
		ack(heard("AE", "B1", "||9", "ERR|||101", "ERR||PID^1|102")),
		{kind: "tick", n: 4},
		{kind: "compact"},
		ack(heard("AE", "B2", "||9", "ERR|||207")),
		{kind: "sync"},
		ack(heard("AA", "B2", "")),
		{kind: "probe", id: "P1"},
		{kind: "tick", n: 5},
		ack(heard("AE", "P1", "", "ERR|||207")),
		{kind: "resync", id: "R1", n: 4},
		{kind: "submit", text: original("B3")},
		{kind: "submit", text: "nothing"},
		in("MSH|^~\\&|||||||QRY^Q01|R1|||-1\r"),
		{kind: "tick", n: 99},
		{kind: "sync"},
	}
}

func sequenced() api.Setup {
	s := roomy(numbers())
	s.Sides[1].Sequence = true
	return s
}

// What is handed in may be written over, and what is answered: an engine to which that is done goes on as its twin.
func TestMemory(t *testing.T) {
	for side := range 2 {
		a, b := start(t, sequenced(), side), start(t, sequenced(), side)
		for i, x := range story() {
			seen, err := x.do(a.e, false)
			want := fmt.Sprint(seen, err, a.e.Image())
			seen, err = x.do(b.e, true)
			got := fmt.Sprint(seen, err, b.e.Image())
			if got != want {
				t.Fatalf("step %d:\n%s\nwant\n%s", i, got, want)
			}
			spoilSeen(seen)
			spoilImage(b.e.Image())
		}
		// Behind a restart, too.
		_, seen, err := Open(a.setup, side, torn(t, a.d, [2]api.Tear{}), 200)
		want := fmt.Sprint(seen, err)
		_, seen, err = Open(b.setup, side, torn(t, b.d, [2]api.Tear{}), 200)
		if got := fmt.Sprint(seen, err); got != want {
			t.Fatalf("Open: %s, want %s", got, want)
		}
	}
}

// The room behind what is handed in is left alone, and what is handed in itself.
func TestArgumentsAreNotChanged(t *testing.T) {
	r := start(t, sequenced(), 1)
	for i, x := range story() {
		p, found := roomyBytes(x.text), append(make([]api.Finding, 0, 9), x.found...)
		before := string(p[:cap(p)]) + fmt.Sprint(found[:cap(found)])
		switch x.kind {
		case "submit":
			r.e.Submit(p)
		case "arrive":
			r.e.Arrive(p)
		case "verdict":
			r.e.Verdict(x.id, x.text, found)
		default:
			x.do(r.e, false)
		}
		if after := string(p[:cap(p)]) + fmt.Sprint(found[:cap(found)]); after != before {
			t.Errorf("step %d: %q, want %q", i, after, before)
		}
	}
}

// No two byte strings of one answer share memory, nor does one with the engine.
func TestAnswersShareNothing(t *testing.T) {
	r := start(t, sequenced(), 1)
	for i, x := range story() {
		seen, _ := x.do(r.e, false)
		all := textsOf(seen, r.e.Image())
		image := fmt.Sprint(r.e.Image())
		for j, b := range all {
			was := slices.Clone(all)
			for k := range was {
				was[k] = slices.Clone(all[k])
			}
			spoil(b)
			for k := range all {
				if k != j && string(all[k]) != string(was[k]) {
					t.Fatalf("step %d: texts %d and %d share memory", i, j, k)
				}
			}
		}
		if got := fmt.Sprint(r.e.Image()); got != image {
			t.Fatalf("step %d: the engine is\n%s\nwas\n%s", i, got, image)
		}
	}
}

// A copied Engine is the same engine.
func TestCopiedEngine(t *testing.T) {
	r := start(t, pair(), 0)
	copied := *r.e
	r.submit(always("A1"))
	if x := copied.Image(); len(x.Sent) != 1 || len(x.Held) != 1 {
		t.Errorf("image %+v", x)
	}
	r.e = &copied
	r.sync("out " + always("A1"))
	r.d.Fuse(0)
	r.sync("down")
}

// Two engines, one step of the one behind one of the other, are as each alone.
func TestTwoEngines(t *testing.T) {
	alone := func(side int) []string {
		r := start(t, sequenced(), side)
		var lines []string
		for _, x := range story() {
			seen, err := x.do(r.e, false)
			lines = append(lines, fmt.Sprint(seen, err, r.e.Image()))
		}
		return lines
	}
	want := [2][]string{alone(0), alone(1)}
	both := [2]*rig{start(t, sequenced(), 0), start(t, sequenced(), 1)}
	for i, x := range story() {
		for side, r := range both {
			seen, err := x.do(r.e, false)
			if got := fmt.Sprint(seen, err, r.e.Image()); got != want[side][i] {
				t.Fatalf("side %d, step %d: %s, want %s", side, i, got, want[side][i])
			}
		}
	}
}

// broken gives a text with some bytes changed, taken out, doubled or put in.
func broken(c *rand.Rand, text string) string {
	b := []byte(text)
	for range c.IntN(4) {
		at := c.IntN(len(b) + 1)
		some := []byte("|^~\\&\r\x0b\x1c\x00\tMSHA1\"0-.\x7f\xff")
		switch n := min(at+c.IntN(9), len(b)); c.IntN(4) {
		case 0:
			b = slices.Insert(b, at, some[c.IntN(len(some))])
		case 1:
			b = slices.Delete(b, at, n)
		case 2:
			b = slices.Insert(b, at, slices.Clone(b[at:n])...)
		default:
			if at < len(b) {
				b[at] = byte(c.IntN(256))
			}
		}
	}
	return string(b)
}

// No call panics on any bytes; what is not accepted, taken as an answer or as a Resync changes no table (W6).
func TestAnyBytes(t *testing.T) {
	c := rand.New(rand.NewPCG(6, 6))
	var frames []string
	for _, text := range []string{
		original("A1"), always("A2"), of("A3", "1", "ER SU"), message("A4", "2", "AL", "AL", "PID|1"), message("A5", "0", "", ""), message("A6", "-1", "", ""),
		string(heard("CA", "B1", "")), string(heard("AE", "B1", "||4", "ERR|||207")), string(heard("AA", "P1", "||4")),
	} {
		frames = append(frames, string(framed(strings.Trim(text, "\x0b\x1c"))), strings.Trim(text, "\x0b\x1c"))
	}
	for round := range 40 {
		s := sequenced()
		s.Sides[1].Sequence = round%2 == 0
		s.Sides[0].Sequence = round%3 != 0
		r := start(t, s, 1)
		r.submit(always("B1"))
		for range 150 {
			text := broken(c, frames[c.IntN(len(frames))])
			before := r.e.Image()
			var err error
			switch c.IntN(8) {
			case 0:
				_, err = r.e.Submit([]byte(text))
			case 1:
				_, err = r.e.Verdict(text, "AA", nil)
				if err == nil {
					t.Fatalf("a verdict on %q", text)
				}
			case 2:
				_, err = r.e.Probe(text)
			default:
				_, err = r.e.Arrive([]byte(text))
			}
			x := r.e.Image()
			if err != nil && fmt.Sprint(x) != fmt.Sprint(before) {
				t.Fatalf("%q: %v changes %+v", text, err, x)
			}
			if x.Written == before.Written && fmt.Sprint(x.Tables) != fmt.Sprint(before.Tables) {
				t.Fatalf("%q changes %+v", text, x.Tables)
			}
			r.agrees()
			if c.IntN(20) == 0 {
				r.e.Sync()
			}
		}
		if _, _, err := Open(s, 1, torn(t, r.d, [2]api.Tear{}), 0); err != nil {
			t.Fatal(err)
		}
	}
}

// Bytes by chance alone.
func TestNoiseOnly(t *testing.T) {
	c := rand.New(rand.NewPCG(9, 9))
	e, _, err := New(pair(), 0, disk.New(), 0)
	if err != nil {
		t.Fatal(err)
	}
	for range 400 {
		p := make([]byte, c.IntN(300))
		for i := range p {
			p[i] = byte(c.IntN(256)) & byte(0x0F|c.IntN(256))
		}
		if _, err := e.Arrive(p); err != nil {
			t.Fatal(err)
		}
		_, err := e.Submit(p)
		if err == nil {
			t.Fatalf("submitted: %q", p)
		}
	}
	x := e.Image()
	if x.Written != 0 || x.Counts.Garbage == 0 || x.Counts.Refused != 0 {
		t.Errorf("image %+v", x)
	}
}
