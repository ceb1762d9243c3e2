package engine

import (
	"reflect"
	"testing"

	"courier/api"
)

// P1808; DOC.md: time.

// Several timers: by tick, and of one tick by control id.
func TestTickOrder(t *testing.T) {
	s := roomy(pair())
	s.Sides[0].Tries = 2
	r := start(t, s, 0)
	r.submit(original("C"))
	r.submit(original("A"))
	r.tick(1)
	r.submit(original("B"))
	r.submit(original("."))
	r.e.Sync()
	r.tick(3)
	r.tick(1, "out "+original("A"), "out "+original("C"))
	r.tick(1, "out "+original("."), "out "+original("B"))
	// In one step, with timers that were set in it.
	r.tick(20, "out "+original("A"), "out "+original("C"), "out "+original("."), "out "+original("B"))
	x := r.e.Image()
	if x.Now != 26 || len(x.Sent) != 0 || x.Written != 8 {
		t.Fatalf("image %+v", x)
	}
	r.sync("answer A failed", "answer C failed", "answer . failed", "answer B failed")
}

// A timer that is set anew within a step may come again in it, as often as tries are left.
func TestTickComesAgain(t *testing.T) {
	for tries := range 17 {
		s := roomy(pair())
		s.Sides[0].Tries, s.Sides[0].Every = tries, 3
		r := start(t, s, 0)
		r.submit(always("A1"))
		r.e.Sync()
		var want []string
		for range tries {
			want = append(want, "out "+always("A1"))
		}
		r.tick(3*tries+2, want...)
		if x := r.e.Image(); len(x.Sent) != 1 || x.Sent[0].Left != 0 || x.Dues[0] != 3*tries+3 {
			t.Fatalf("image %+v", x)
		}
		r.tick(1)
		r.sync("answer A1 failed")
	}
}

// With sequencing the next one goes out at the tick at which the one ahead has failed, and may fail in the same step.
func TestTickLetsTheNextGoOut(t *testing.T) {
	s := roomy(numbers())
	s.Sides[0].Tries = 0
	r := start(t, s, 0)
	r.submit(original("A1"))
	r.submit(of("A2", "", "ER NE"))
	r.submit(original("A3"))
	r.e.Sync()
	r.tick(12)
	r.sync("answer A1 failed", "out "+of("A2", "2", "ER NE"), "answer A2 closed", "out "+of("A3", "3", ""))
	if x := r.e.Image(); x.Now != 12 || !reflect.DeepEqual(x.Dues, []int{15}) {
		t.Errorf("image %+v", x)
	}
}

// The clock stays at its end, and what would be due beyond it never comes.
func TestTickAtTheEnd(t *testing.T) {
	r := startAt(t, roomy(pair()), 0, latest-6)
	r.submit(original("A1"))
	r.tick(1)
	r.submit(original("A2"))
	r.tick(1)
	r.submit(original("A3"))
	r.e.Sync()
	if x := r.e.Image(); !reflect.DeepEqual(x.Dues, []int{latest - 1, latest, 0}) {
		t.Fatalf("dues %v", x.Dues)
	}
	r.tick(100, "out "+original("A1"), "out "+original("A2"))
	x := r.e.Image()
	if x.Now != latest || !reflect.DeepEqual(x.Dues, []int{0, 0, 0}) || x.Sent[0].Left != 0 || x.Sent[2].Left != 1 {
		t.Fatalf("image %+v", x)
	}
	r.tick(api.MaxTicks)
	r.tick(1)
	if now := r.e.Image().Now; now != latest {
		t.Errorf("now %d", now)
	}
	r.arrive(heard("AA", "A3", ""))
	r.sync("answer A3 answered AA")
}

// A timer that is set anew to a tick beyond the end is gone.
func TestTickTakesTheTimer(t *testing.T) {
	r := startAt(t, roomy(pair()), 0, latest-5)
	r.submit(of("A1", "", "AL ER"))
	r.e.Sync()
	r.tick(1)
	r.arrive(heard("CA", "A1", ""))
	if x := r.e.Image(); x.Sent[0].State != api.WantListen || x.Dues[0] != 0 {
		t.Fatalf("image %+v", x)
	}
	r.sync()
	r.tick(100)
	if x := r.e.Image(); len(x.Sent) != 1 {
		t.Errorf("image %+v", x)
	}
}

// Tries and timers are forgotten by a crash.
func TestTickAndRestart(t *testing.T) {
	r := start(t, pair(), 0)
	r.submit(original("A1"))
	r.e.Sync()
	r.tick(9, "out "+original("A1"))
	r.restart([2]api.Tear{}, 9, "out "+original("A1"))
	if x := r.e.Image(); x.Sent[0].Left != 1 || x.Dues[0] != 14 {
		t.Errorf("image %+v", x)
	}
	r.tick(5, "out "+original("A1"))
	r.tick(5)
	r.sync("answer A1 failed")
}
