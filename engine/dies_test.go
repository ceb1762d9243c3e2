package engine

import (
	"reflect"
	"testing"

	"courier/api"
)

// Words: the disk dies in a step; W2, durable ahead of told.

// scene is an engine in front of a step that writes.
type scene struct {
	what  string
	ready func(t *testing.T) *rig
	step  func(e *Engine) ([]api.Seen, error)
	now   int // the clock behind it
}

func scenes() []scene {
	both := numbers()
	both.Sides[1].Sequence = true
	closed := pair()
	closed.Sides[0].Compact = 1
	sent := func(t *testing.T) *rig {
		r := start(t, roomy(both), 0)
		r.submit(always("A1"))
		r.submit(of("A2", "", "NE NE"))
		return r
	}
	asked := func(t *testing.T) *rig {
		r := start(t, roomy(both), 0)
		r.probe("P1", "out MSH|^~\\&|LAB||HIS||20260105000000||QRY^Q01|P1|P|2.5.1|0\r")
		r.submit(always("A1"))
		return r
	}
	given := func(t *testing.T) *rig {
		r := start(t, roomy(both), 1)
		r.arrive(framed(of("A1", "1", "AL AL")))
		r.sync("out "+reply("CA", "A1", ""), "deliver A1 1 new "+always("A1"))
		return r
	}
	spent := func(t *testing.T) *rig {
		r := sent(t)
		r.arrive(heard("CE", "A1", "||2147483647", "ERR|||207"))
		return r
	}
	long := func(t *testing.T) *rig {
		r := start(t, closed, 0)
		r.submit(always("A1"))
		return r
	}
	two := append(framed(of("A2", "2", "AL AL")), framed(of("A3", "3", "AL AL"))...)
	return []scene{
		{"submit", sent, submitting(always("A3")), 0},
		{"submit to go out", func(t *testing.T) *rig { return start(t, roomy(both), 0) }, submitting(of("A3", "", "NE NE")), 0},
		{"a commit", sent, arriving(heard("CA", "A1", "")), 0},
		{"an answer, and the turn", sent, arriving(heard("CE", "A1", "")), 0},
		{"a number", sent, arriving(heard("CE", "A1", "||7", "ERR|||207")), 0},
		{"an answer, and no number for the turn", spent, arriving(heard("CE", "A1", "")), 0},
		{"a probe's answer, and the turn", asked, arriving(heard("AA", "P1", "||4")), 0},
		{"ticks", sent, ticking(100), 100},
		{"messages", given, arriving(two), 0},
		{"a resync", given, arriving(framed("MSH|^~\\&|||||||QRY^Q01|R1|||-1\r")), 0},
		{"a verdict", given, judging("A1", "AA", nil), 0},
		{"sync", sent, (*Engine).Sync, 0},
		{"compact", sent, (*Engine).Compact, 0},
		{"compact of a log that is synced", given, (*Engine).Compact, 0},
		{"a compaction ahead", long, submitting(original("A2")), 0},
		{"a compaction ahead of a tick", long, ticking(7), 7},
		{"a compaction ahead of nothing", long, arriving(nil), 0},
	}
}

// With each fuse under which a step dies nothing leaves but that the side is down, every later step is refused, and what was told before is kept.
func TestDies(t *testing.T) {
	for _, s := range scenes() {
		fuse := 0
		for ; ; fuse++ {
			r := s.ready(t)
			before := r.e.Image()
			r.d.Fuse(fuse)
			seen, err := s.step(r.e)
			if err != nil {
				t.Fatalf("%s, fuse %d: %v", s.what, fuse, err)
			}
			if r.e.Alive() {
				break
			}
			lines := allTold(t, r.side, seen)
			if len(lines) == 0 || lines[len(lines)-1] != "down" {
				t.Fatalf("%s, fuse %d: %q", s.what, fuse, lines)
			}
			// What leaves ahead of that is what a compaction had let out.
			if n := len(lines) - 1; n > 0 && (len(before.Held) != n || s.what[:5] != "a com" || fuse < 5) {
				t.Errorf("%s, fuse %d: %q", s.what, fuse, lines)
			}
			if x := r.e.Image(); !reflect.DeepEqual(x, api.EngineImage{Now: s.now}) {
				t.Errorf("%s, fuse %d: image %+v", s.what, fuse, x)
			}
			for name, step := range steps() {
				if seen, err := step(r.e); len(seen) != 0 || err == nil {
					t.Errorf("%s, fuse %d: %s answers %v", s.what, fuse, name, seen)
				}
				_, err := step(r.e)
				isFault(t, name, err, api.ErrDead, 0)
			}
			r.d.Crash([2]api.Tear{})
			e, _, err := Open(r.setup, r.side, r.d, s.now)
			if e == nil || err != nil {
				t.Fatalf("%s, fuse %d: Open: %v", s.what, fuse, err)
			}
		}
		if fuse == 0 {
			t.Errorf("%s: nothing is written", s.what)
		}
	}
}

// How many writes each step is, by how long a fuse it takes to live.
func TestWrites(t *testing.T) {
	want := map[string]int{
		"submit": 1, "submit to go out": 3, "a commit": 1, "an answer, and the turn": 3, "a number": 1, "an answer, and no number for the turn": 2,
		"a probe's answer, and the turn": 2, "ticks": 3, "messages": 2, "a resync": 1, "a verdict": 1,
		"sync": 1, "compact": 5, "compact of a log that is synced": 4,
		"a compaction ahead": 6, "a compaction ahead of a tick": 5, "a compaction ahead of nothing": 5,
	}
	for _, s := range scenes() {
		for fuse := range want[s.what] + 1 {
			r := s.ready(t)
			r.d.Fuse(fuse)
			s.step(r.e)
			if r.e.Alive() != (fuse == want[s.what]) {
				t.Errorf("%s: %d writes, alive %v", s.what, fuse, r.e.Alive())
			}
		}
	}
}

// What a compaction has let out at a step's beginning is seen, though the step dies behind it.
func TestDiesBehindCompaction(t *testing.T) {
	s := pair()
	s.Sides[1].Compact = 1
	r := start(t, s, 1)
	r.arrive(framed(always("A1")))
	r.d.Fuse(5)
	r.submit(always("B1"), "out "+reply("CA", "A1", ""), "deliver A1 0 new "+always("A1"), "down")
	r.restart([2]api.Tear{}, 0, "deliver A1 0 again "+always("A1"))
	// Of the compaction itself nothing leaves when it dies, whatever it has made durable.
	for fuse := range 5 {
		r := start(t, s, 1)
		r.arrive(framed(always("A1")))
		r.d.Fuse(fuse)
		r.submit(always("B1"), "down")
		again := []string{"deliver A1 0 again " + always("A1")}
		if fuse == 0 {
			again = nil
		}
		r.restart([2]api.Tear{}, 0, again...)
	}
}

// The clock goes on wherever a tick dies.
func TestClockOutlivesDisk(t *testing.T) {
	r := startAt(t, pair(), 0, latest-3)
	r.submit(of("A1", "", "ER NE"))
	r.e.Sync()
	r.tick(2)
	if x := r.e.Image(); x.Now != latest-1 || !reflect.DeepEqual(x.Dues, []int{0}) {
		t.Fatalf("image %+v", x)
	}
	r = startAt(t, pair(), 0, latest-7)
	r.submit(of("A1", "", "ER NE"))
	r.e.Sync()
	r.d.Fuse(0)
	r.tick(100, "down")
	if x := r.e.Image(); !reflect.DeepEqual(x, api.EngineImage{Now: latest}) {
		t.Errorf("image %+v", x)
	}
}
