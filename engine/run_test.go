package engine

import (
	"errors"
	"fmt"
	"math/rand/v2"
	"slices"
	"strconv"
	"strings"
	"testing"

	"courier/api"
	"courier/disk"
	"courier/ledger"
)

// P1801 to P1814: runs of an engine beside the plain tables: what leaves, and the image, behind every step.

// run is an engine and its model, and what chance says.
type run struct {
	*rand.Rand
	t     *testing.T
	d     *disk.Disk
	e     *Engine
	plain *plainSide
	story []string
}

func (r *run) pick(list ...string) string { return list[r.IntN(len(list))] }

// same: both have seen the same, and are alike.
func (r *run) same(what string, seen []api.Seen, err error, wantSeen []api.Seen, wantErr api.Errno) {
	r.t.Helper()
	r.story = append(r.story, what)
	var f *api.Fault
	if errors.As(err, &f) != (wantErr != 0) || f != nil && f.Code != wantErr {
		r.t.Fatalf("%s\nanswers %v, want number %d", strings.Join(r.story, "\n"), err, wantErr)
	}
	got, want := allTold(r.t, r.plain.side, seen), allTold(r.t, r.plain.side, wantSeen)
	if !slices.Equal(got, want) {
		r.t.Fatalf("%s\nhas seen\n%q\nwant\n%q", strings.Join(r.story, "\n"), got, want)
	}
	r.sameImage()
}

func (r *run) sameImage() {
	r.t.Helper()
	got, want := fmt.Sprintf("%+v", r.e.Image()), fmt.Sprintf("%+v", r.plain.image)
	if got != want || r.e.Alive() == r.plain.down {
		r.t.Fatalf("%s\nis\n%s\nwant\n%s", strings.Join(r.story, "\n"), got, want)
	}
}

func (r *run) conditions() (string, string) {
	words := strings.Split(r.pick(" ", "AL AL", "AL NE", "NE AL", "ER ER", "SU SU", "NE NE", "AL ER", "SU ER", "NE ER", "ER NE", "AL ", " AL"), " ")
	return words[0], words[1]
}

func (r *run) submit() {
	accept, app := r.conditions()
	text := message(r.pick("A", "B", "C", "D", "E.", "F-9", "aa"), "", accept, app, []string{"PID|1"}[:r.IntN(2)]...)
	seen, err := r.e.Submit([]byte(text))
	want, code := r.plain.submit(text)
	r.same("submit "+text, seen, err, want, code)
}

// number is an MSH-13 for a message that comes in.
func (r *run) number() string {
	expects := r.plain.image.Tables.Expects
	switch r.IntN(12) {
	case 0:
		return r.pick("", "0", "-1", "01", "x", "+1", "2147483648", "-2", "1.0")
	case 1:
		return strconv.Itoa(expects + 1)
	case 2:
		return strconv.Itoa(max(expects-1, 1))
	case 3:
		return "2147483647"
	}
	return strconv.Itoa(max(expects, 1))
}

// incoming is a message that comes in: often right, else wrong in one way.
func (r *run) incoming() string {
	accept, app := r.conditions()
	number := ""
	if r.plain.other().Sequence || r.IntN(4) == 0 {
		number = r.number()
	}
	text := message(r.pick("I1", "I2", "I3", "I4", "I5", "I6", "i-7"), number, accept, app, []string{"PID|1"}[:r.IntN(2)]...)
	if r.IntN(4) > 0 {
		return text
	}
	swap := func(old, with string) string { return strings.Replace(text, old, with, 1) }
	switch r.IntN(12) {
	case 0:
		return swap("ADT^A01", r.pick("ADT^A02", "ADT", "ORU^R01", "XYZ^A01", "XYZ"))
	case 1:
		return swap("|P|", "|T|")
	case 2:
		return swap("|2.5.1", "|2.4")
	case 3:
		return swap("|I", r.pick("|I ", "|I_", "|I123456789012345678", "|*"))
	case 4:
		return message("I8", number, r.pick("XX", "AL", "al"), r.pick("YY", "AL"))
	case 5:
		return text + "NK1|x\r"
	case 6:
		return text + "PID|\t\r"
	case 7:
		return swap("LAB", "L\tAB")
	case 8:
		return "MSH|^~\\&|" + r.pick("LAB", "LAB2") + "||HIS||2026||QRY^Q01|" + r.pick("P1", "P2", "R1", "R2") + "|P|2.5.1|" + r.pick("0", "-1", "-1") + "\r"
	case 9:
		return swap("2026", "2027")
	}
	return text
}

func (r *run) arrive() {
	text, noise := r.incoming(), strings.Repeat("x", r.IntN(2)*r.IntN(4))
	p := append([]byte(noise), framed(text)...)
	cut := r.IntN(len(p))
	var seen []api.Seen
	var err error
	want := r.plain.step(true, func() {
		r.plain.image.Counts.Garbage += len(noise)
		r.plain.arrive(text)
	})
	if r.plain.log >= r.plain.own().Compact || r.plain.down {
		// A second piece might bring a compaction, or find the side down.
		cut = 0
	}
	if cut > 0 && len(want) == 0 {
		if seen, err = r.e.Arrive(p[:cut]); err != nil || len(seen) != 0 {
			r.t.Fatalf("half a frame: %v, %v", seen, err)
		}
		p = p[cut:]
	}
	seen, err = r.e.Arrive(p)
	r.same(fmt.Sprintf("arrive %q", text), seen, err, want, 0)
}

func (r *run) hear() {
	ids := []string{"A", "Z", r.plain.image.Link.Control + ""}
	for _, s := range r.plain.image.Sent {
		ids = append(ids, s.Control, s.Control, s.Control)
	}
	id := ids[r.IntN(len(ids))]
	if id == "" {
		id = "none"
	}
	code := r.pick("CA", "CA", "CE", "CR", "AA", "AA", "AE", "AR", "CE", "AE")
	expect, behind := -1, ""
	if r.IntN(3) > 0 {
		expect = r.IntN(8)
		if r.IntN(12) == 0 {
			expect = top
		}
		behind = "||" + strconv.Itoa(expect)
	}
	var reports []string
	var found []api.Finding
	for range r.IntN(3) {
		x := atField([]int{207, 207, 101}[r.IntN(3)], 13)
		reports = append(reports, "ERR||"+report(x.Code, 13))
		if code != "AA" && code != "CA" {
			found = append(found, x)
		}
	}
	seen, err := r.e.Arrive(heard(code, id, behind, reports...))
	want := r.plain.step(true, func() { r.plain.heard(code, id, expect, found) })
	r.same(fmt.Sprintf("hear %s %s %s %q", code, id, behind, reports), seen, err, want, 0)
}

func (r *run) verdict() {
	ids := append([]string{"I1", "none"}, r.plain.image.Open...)
	ids = append(ids, r.plain.image.Open...)
	id, code := ids[r.IntN(len(ids))], r.pick("AA", "AE", "AR")
	var found []api.Finding
	if code != "AA" {
		found = []api.Finding{{Code: 101, Seg: "PID", Occur: 1, Field: 3}, {Code: 207}}[:r.IntN(3)]
	}
	seen, err := r.e.Verdict(id, code, found)
	want, number := r.plain.verdict(id, code, found)
	r.same("verdict "+id+" "+code, seen, err, want, number)
}

func (r *run) tick() {
	n := 1 + r.IntN(1+r.IntN(12))
	seen, err := r.e.Tick(n)
	r.same("tick "+strconv.Itoa(n), seen, err, r.plain.tick(n), 0)
}

func (r *run) sync() {
	seen, err := r.e.Sync()
	r.same("sync", seen, err, r.plain.step(false, r.plain.sync), 0)
}

func (r *run) compact() {
	seen, err := r.e.Compact()
	r.same("compact", seen, err, r.plain.step(false, r.plain.compact), 0)
}

func (r *run) ask() {
	id, next := r.pick("P1", "R1", "R2", "A", "B", "no one"), 0
	if r.IntN(2) == 0 {
		seen, err := r.e.Probe(id)
		want, code := r.plain.ask(id, 0)
		r.same("probe "+id, seen, err, want, code)
		return
	}
	next = 1 + r.IntN(9)
	if r.IntN(4) == 0 {
		next = top - r.IntN(2)
	}
	seen, err := r.e.Resync(id, next)
	want, code := r.plain.ask(id, next)
	r.same("resync "+id+" "+strconv.Itoa(next), seen, err, want, code)
}

func (r *run) burn() {
	n := r.IntN(9)
	r.story = append(r.story, "fuse "+strconv.Itoa(n))
	r.d.Fuse(n)
	r.plain.fuse = n
}

// restart crashes with some tears. What is left is a beginning of what was not durable; the model goes on from there.
func (r *run) restart() {
	tear := func() api.Tear { return api.Tear{Keep: r.IntN(400), Zeros: r.IntN(200)} }
	tears := [][2]api.Tear{{}, {{Keep: api.MaxArea}, {Keep: api.MaxArea}}, {tear(), tear()}}[r.IntN(3)]
	r.d.Crash(tears)
	copied, _ := disk.From(r.d.Image())
	book, err := ledger.Open(copied, termsOf(r.plain.setup, r.plain.side))
	if err != nil {
		r.t.Fatalf("%s\n%v", strings.Join(r.story, "\n"), err)
	}
	may := append(slices.Clone(r.plain.since), r.plain.before())
	left := slices.IndexFunc(may, func(x api.Tables) bool {
		return fmt.Sprintf("%+v", x) == fmt.Sprintf("%+v", book.Tables())
	})
	if left < 0 {
		r.t.Fatalf("%s\nis left: %+v", strings.Join(r.story, "\n"), book.Tables())
	}
	if tears == ([2]api.Tear{}) && left > 0 && !slices.ContainsFunc(may[:1], func(x api.Tables) bool { return fmt.Sprint(x) == fmt.Sprint(may[left]) }) {
		r.t.Fatalf("%s\nnothing may be left", strings.Join(r.story, "\n"))
	}
	e, out, err := Open(r.plain.setup, r.plain.side, r.d, r.plain.image.Now)
	r.e = e
	r.same(fmt.Sprintf("restart %v", tears), out, err, r.plain.open(may[left], book.Stat().Records), 0)
}

func (r *run) steps(n int) {
	table := []struct {
		weight int
		do     func()
	}{
		{10, r.submit}, {14, r.arrive}, {14, r.hear}, {10, r.verdict}, {8, r.tick}, {10, r.sync}, {1, r.compact}, {3, r.ask}, {1, r.burn}, {1, r.restart},
	}
	for range n {
		if r.plain.down {
			r.restart()
			continue
		}
		at := r.IntN(72)
		for _, x := range table {
			if at -= x.weight; at < 0 {
				x.do()
				break
			}
		}
	}
}

func TestRuns(t *testing.T) {
	runs := 500
	if testing.Short() {
		runs = 100
	}
	for seed := range runs {
		c := rand.New(rand.NewPCG(18, uint64(seed)))
		s := pair()
		for i := range s.Sides {
			x := &s.Sides[i]
			x.Sequence = c.IntN(2) == 0
			x.Every, x.Tries, x.Keep, x.Compact = 1+c.IntN(5), c.IntN(4), 1+c.IntN(3), 1+c.IntN(8)
			x.Facility = []string{"", "NORTH"}[c.IntN(2)]
		}
		side := c.IntN(2)
		r := &run{Rand: c, t: t, d: disk.New(), plain: newPlain(s, side)}
		e, _, err := New(s, side, r.d, 0)
		if err != nil {
			t.Fatal(err)
		}
		r.e = e
		r.steps(80)
	}
}
