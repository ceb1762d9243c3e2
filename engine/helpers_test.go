package engine

import (
	"bytes"
	"errors"
	"reflect"
	"slices"
	"strconv"
	"strings"
	"testing"

	"courier/api"
	"courier/disk"
)

const (
	top     = 2147483647
	latest  = 1099511627776
	longest = 8192
)

var common = api.Marks{Field: '|', Comp: '^', Rep: '~', Esc: '\\', Sub: '&'}

// pair is the setup of DOC.md's examples.
func pair() api.Setup {
	a := api.Side{App: "LAB", Marks: common, Process: "P", Every: 5, Tries: 1, Keep: 1, Compact: 9}
	b := a
	b.App = "HIS"
	return api.Setup{Start: "20260105000000", Version: "2.5.1", Sides: [2]api.Side{a, b}, Profile: "message ADT A01 = MSH [ PID ] end\n"}
}

// numbers is that setup, with sequencing on side 0.
func numbers() api.Setup {
	s := pair()
	s.Sides[0].Sequence = true
	return s
}

// roomy is a setup whose log is not compacted by itself, and that keeps all.
func roomy(s api.Setup) api.Setup {
	for i := range s.Sides {
		s.Sides[i].Compact, s.Sides[i].Keep = 256, 64
	}
	return s
}

// message gives the text of one: MSH-10, MSH-13, MSH-15, MSH-16, and further segments.
func message(id, number, accept, app string, more ...string) string {
	head := "MSH|^~\\&|LAB||HIS||2026||ADT^A01|" + id + "|P|2.5.1|" + number + "||" + accept + "|" + app
	return strings.Join(append([]string{strings.TrimRight(head, "|")}, more...), "\r") + "\r"
}

// original and plain messages, without a number.
func original(id string) string { return message(id, "", "", "") }

func always(id string) string { return message(id, "", "AL", "AL") }

// of gives a message with these conditions, two words; of none it is original.
func of(id, number, conditions string) string {
	accept, app, _ := strings.Cut(conditions, " ")
	return message(id, number, accept, app)
}

func framed(text string) []byte { return []byte("\x0b" + text + "\x1c\r") }

// reply gives the text of an acknowledgement by side 1 of a message of side 0, at the beginning: what stands behind MSA-2, and the ERRs.
func reply(code, id, behind string, reports ...string) string {
	conditions := ""
	if code[0] == 'C' || strings.HasPrefix(behind, "+") {
		conditions, behind = "|||NE|NE", strings.TrimPrefix(behind, "+")
	}
	head := "MSH|^~\\&|HIS||LAB||20260105000000||ACK^A01^ACK|" + code[:1] + id + "|P|2.5.1" + conditions
	list := []string{head, "MSA|" + code + "|" + id + behind}
	for _, r := range reports {
		list = append(list, "ERR||"+r)
	}
	return strings.Join(list, "\r") + "\r"
}

// report gives an ERR's end: a code at a field of the MSH.
func report(code, field int) string {
	return "MSH^1^" + strconv.Itoa(field) + "^1|" + strconv.Itoa(code) + "^^HL70357|E"
}

// heard gives the frame of an acknowledgement as the other side might write it.
func heard(code, id, behind string, segments ...string) []byte {
	list := append([]string{"MSH|^~\\&|HIS||LAB||2026||ACK|X1|P|2.5.1", "MSA|" + code + "|" + id + behind}, segments...)
	return framed(strings.Join(list, "\r") + "\r")
}

// rig is an engine under test with its disk.
type rig struct {
	t     *testing.T
	e     *Engine
	d     *disk.Disk
	setup api.Setup
	side  int
}

// start makes an engine on a new disk.
func start(t *testing.T, s api.Setup, side int) *rig {
	t.Helper()
	return startAt(t, s, side, 0)
}

func startAt(t *testing.T, s api.Setup, side int, now int) *rig {
	t.Helper()
	r := &rig{t: t, d: disk.New(), setup: s, side: side}
	e, seen, err := New(s, side, r.d, now)
	if e == nil || err != nil {
		t.Fatalf("New: %v", err)
	}
	r.e = e
	r.saw(seen, nil, "up")
	return r
}

// restart crashes the disk with these tears, and opens it again.
func (r *rig) restart(tears [2]api.Tear, now int, want ...string) {
	r.t.Helper()
	r.d.Crash(tears)
	r.reopen(now, want...)
}

func (r *rig) reopen(now int, want ...string) {
	r.t.Helper()
	e, seen, err := Open(r.setup, r.side, r.d, now)
	r.e = e
	r.saw(seen, err, append([]string{"up"}, want...)...)
}

// told tells a thing that was seen in a line; of a frame and a delivery it has the message.
func told(t *testing.T, side int, s api.Seen) string {
	t.Helper()
	line, rest := "", api.Seen{Kind: s.Kind, Side: side}
	switch s.Kind {
	case api.SeenOut:
		rest.Text = s.Text
		inner := bytes.TrimSuffix(bytes.TrimPrefix(s.Text, []byte{0x0B}), []byte{0x1C, 0x0D})
		if !bytes.Equal(framed(string(inner)), s.Text) {
			t.Fatalf("no frame: %q", s.Text)
		}
		line = "out " + string(inner)
	case api.SeenDeliver:
		rest.Text, rest.Control, rest.Number, rest.Again = s.Text, s.Control, s.Number, s.Again
		line = "deliver " + s.Control + " " + strconv.Itoa(s.Number) + " " + map[bool]string{true: "again ", false: "new "}[s.Again] + string(s.Text)
	case api.SeenAnswer:
		rest.Control, rest.State, rest.Code, rest.Errors = s.Control, s.State, s.Code, s.Errors
		line = "answer " + s.Control + " " + map[int]string{1: "answered", 2: "closed", 3: "failed"}[s.State] + " " + s.Code
		for _, f := range s.Errors {
			line += " " + findingText(f)
		}
		line = strings.TrimSuffix(line, " ")
	case api.SeenDown:
		line = "down"
	case api.SeenUp:
		line = "up"
	}
	if line == "" || !reflect.DeepEqual(s, rest) {
		t.Fatalf("seen: %+v", s)
	}
	return line
}

func findingText(f api.Finding) string {
	seg := f.Seg
	if seg == "" {
		seg = "-"
	}
	words := []string{strconv.Itoa(f.Code), seg}
	for _, n := range []int{f.Occur, f.Field, f.Rep, f.Comp, f.Sub} {
		words = append(words, strconv.Itoa(n))
	}
	return strings.Join(words, " ")
}

func allTold(t *testing.T, side int, seen []api.Seen) []string {
	t.Helper()
	var lines []string
	for _, s := range seen {
		lines = append(lines, told(t, side, s))
	}
	return lines
}

// saw: a step has answered just these lines.
func (r *rig) saw(seen []api.Seen, err error, want ...string) {
	r.t.Helper()
	if err != nil {
		r.t.Fatalf("refused: %v", err)
	}
	if got := allTold(r.t, r.side, seen); !slices.Equal(got, want) {
		r.t.Fatalf("seen:\n%q\nwant\n%q", got, want)
	}
	if r.e != nil && r.e.Alive() {
		r.agrees()
	}
}

// agrees: an image agrees with itself.
func (r *rig) agrees() {
	r.t.Helper()
	x := r.e.Image()
	if x.Safe > x.Written || len(x.Sent) != len(x.Tables.Out) || len(x.Dues) != len(x.Sent) {
		r.t.Fatalf("image: %+v", x)
	}
	for i, s := range x.Sent {
		if !reflect.DeepEqual(s.Out, x.Tables.Out[i]) {
			r.t.Fatalf("sent %+v, in the tables %+v", s.Out, x.Tables.Out[i])
		}
	}
	for i, h := range x.Held {
		if h.After <= x.Safe && i == 0 || h.After > x.Written || i > 0 && h.After < x.Held[i-1].After {
			r.t.Fatalf("held: %+v of %d, %d", x.Held, x.Written, x.Safe)
		}
	}
}

func (r *rig) submit(text string, want ...string) {
	r.t.Helper()
	seen, err := r.e.Submit([]byte(text))
	r.saw(seen, err, want...)
}

func (r *rig) verdict(id, code string, found []api.Finding, want ...string) {
	r.t.Helper()
	seen, err := r.e.Verdict(id, code, found)
	r.saw(seen, err, want...)
}

func (r *rig) arrive(p []byte, want ...string) {
	r.t.Helper()
	seen, err := r.e.Arrive(p)
	r.saw(seen, err, want...)
}

func (r *rig) tick(n int, want ...string) {
	r.t.Helper()
	seen, err := r.e.Tick(n)
	r.saw(seen, err, want...)
}

func (r *rig) sync(want ...string) {
	r.t.Helper()
	seen, err := r.e.Sync()
	r.saw(seen, err, want...)
}

func (r *rig) compact(want ...string) {
	r.t.Helper()
	seen, err := r.e.Compact()
	r.saw(seen, err, want...)
}

func (r *rig) probe(id string, want ...string) {
	r.t.Helper()
	seen, err := r.e.Probe(id)
	r.saw(seen, err, want...)
}

func (r *rig) resync(id string, next int, want ...string) {
	r.t.Helper()
	seen, err := r.e.Resync(id, next)
	r.saw(seen, err, want...)
}

// counts: the counters are these.
func (r *rig) counts(want api.Counts) {
	r.t.Helper()
	if got := r.e.Image().Counts; got != want {
		r.t.Fatalf("counts %+v, want %+v", got, want)
	}
}

// diskText is all that can be seen of a disk.
func diskText(d *disk.Disk) string {
	text := ""
	for area, image := range d.Image() {
		n, _ := d.Len(area)
		p, _ := d.Read(area, 0, n)
		text += string(image) + "|" + string(p) + "|" + strconv.Itoa(n) + "|"
	}
	w := d.Counts()
	return text + strconv.FormatBool(d.Alive()) + strconv.Itoa(w.Appends) + " " + strconv.Itoa(w.Syncs) + " " + strconv.Itoa(w.Cuts)
}

// refuses: a step is refused with that number at that place, with nothing under it, and has done nothing.
func (r *rig) refuses(what string, step func(e *Engine) ([]api.Seen, error), code api.Errno, at int) {
	r.t.Helper()
	before, image := diskText(r.d), r.e.Image()
	seen, err := step(r.e)
	if len(seen) != 0 {
		r.t.Fatalf("%s: seen %v", what, seen)
	}
	isFault(r.t, what, err, code, at)
	if diskText(r.d) != before || !reflect.DeepEqual(image, r.e.Image()) {
		r.t.Fatalf("%s: a refused step has changed something", what)
	}
}

// isFault: the error is this layer's with that number and place, and nothing under it.
func isFault(t *testing.T, what string, err error, code api.Errno, at int) {
	t.Helper()
	var f *api.Fault
	if !errors.As(err, &f) || *f != (api.Fault{Layer: "engine", At: at, Code: code}) || !errors.Is(err, code) {
		t.Fatalf("%s: %v, want number %d at %d", what, err, code, at)
	}
}

// isUnder: the error is this layer's with the number of a fault of that layer, which stands under it.
func isUnder(t *testing.T, what string, err error, layer string, code api.Errno, at int) {
	t.Helper()
	var f, under *api.Fault
	if !errors.As(err, &f) || f.Layer != "engine" || f.At != at || f.Code != code {
		t.Fatalf("%s: %v, want number %d at %d", what, err, code, at)
	}
	if !errors.As(f.Under, &under) || under.Layer != layer || under.Code != code {
		t.Fatalf("%s: under is %v", what, f.Under)
	}
}

func submitting(text string) func(e *Engine) ([]api.Seen, error) {
	return func(e *Engine) ([]api.Seen, error) { return e.Submit([]byte(text)) }
}

func judging(id, code string, found []api.Finding) func(e *Engine) ([]api.Seen, error) {
	return func(e *Engine) ([]api.Seen, error) { return e.Verdict(id, code, found) }
}

func arriving(p []byte) func(e *Engine) ([]api.Seen, error) {
	return func(e *Engine) ([]api.Seen, error) { return e.Arrive(p) }
}

func ticking(n int) func(e *Engine) ([]api.Seen, error) {
	return func(e *Engine) ([]api.Seen, error) { return e.Tick(n) }
}

func probing(id string) func(e *Engine) ([]api.Seen, error) {
	return func(e *Engine) ([]api.Seen, error) { return e.Probe(id) }
}

func resyncing(id string, next int) func(e *Engine) ([]api.Seen, error) {
	return func(e *Engine) ([]api.Seen, error) { return e.Resync(id, next) }
}

// at is a text that was made at the beginning, as one made at that tick of the first minute.
func at(text string, tick int) string {
	two := strconv.Itoa(100 + tick)[1:]
	return strings.Replace(text, "|20260105000000|", "|202601050000"+two+"|", 1)
}
