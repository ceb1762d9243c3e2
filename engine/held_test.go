package engine

import (
	"fmt"
	"reflect"
	"slices"
	"strconv"
	"testing"

	"courier/api"
)

// Words: an output, and when it leaves (P1809, P1812).

// after are the numbers of records for which what is held waits.
func after(x api.EngineImage) []int {
	var list []int
	for _, h := range x.Held {
		list = append(list, h.After)
	}
	return list
}

func TestHeldTillSync(t *testing.T) {
	r := start(t, roomy(pair()), 1)
	r.submit(always("B1"))
	r.arrive(framed(always("A1")))
	r.submit(of("B2", "", "NE NE"))
	x := r.e.Image()
	if x.Written != 4 || x.Safe != 0 || !slices.Equal(after(x), []int{1, 2, 2, 3, 4}) {
		t.Fatalf("image %+v", x)
	}
	// A tick's sending waits for all that was written ahead of it, though its own record is older.
	r.tick(5)
	r.arrive(framed(always("A1")))
	if x := r.e.Image(); !slices.Equal(after(x), []int{1, 2, 2, 3, 4, 4, 4}) {
		t.Fatalf("image %+v", x)
	}
	ca := "out " + reply("CA", "A1", "")
	r.sync("out "+always("B1"), ca, "deliver A1 0 new "+always("A1"), "out "+of("B2", "", "NE NE"), "answer B2 closed", "out "+always("B1"), ca)
	if x := r.e.Image(); x.Written != 4 || x.Safe != 4 || len(x.Held) != 0 {
		t.Errorf("image %+v", x)
	}
	// Behind a sync what needs no record leaves at once.
	r.arrive(framed(always("A1")), ca)
	r.arrive(framed(message("A9", "", "", "", "NK1")), "out "+at(reply("AE", "A9", "", "NK1^1|100^^HL70357|E"), 5))
	// But nothing overtakes what waits.
	r.submit(original("B3"))
	r.arrive(framed(always("A1")))
	r.arrive(framed(message("A9", "", "", "", "NK1")))
	r.compact("out "+original("B3"), ca, "out "+at(reply("AE", "A9", "", "NK1^1|100^^HL70357|E"), 5))
}

// Sync writes once, also where nothing waits.
func TestSyncWrites(t *testing.T) {
	r := start(t, pair(), 0)
	before := r.d.Counts()
	r.sync()
	after := r.d.Counts()
	before.Syncs++
	if before != after {
		t.Errorf("writes %+v, want %+v", after, before)
	}
}

// The deliveries that have left are those on which a verdict is taken, in the order in which they left.
func TestHeldDeliveries(t *testing.T) {
	r := start(t, roomy(pair()), 1)
	r.arrive(framed(original("A2")))
	r.arrive(framed(original("A1")))
	if x := r.e.Image(); len(x.Open) != 0 || len(x.Tables.In) != 2 {
		t.Fatalf("image %+v", x)
	}
	r.sync("deliver A2 0 new "+original("A2"), "deliver A1 0 new "+original("A1"))
	r.arrive(framed(original("A0")))
	if x := r.e.Image(); !slices.Equal(x.Open, []string{"A2", "A1"}) {
		t.Fatalf("open %v", x.Open)
	}
	r.sync("deliver A0 0 new " + original("A0"))
	r.verdict("A1", "AA", nil)
	if x := r.e.Image(); !slices.Equal(x.Open, []string{"A2", "A0"}) {
		t.Fatalf("open %v", x.Open)
	}
}

// fill holds that many outputs: copies of a message whose record is not durable.
func fill(t *testing.T, s api.Setup, n int) *rig {
	t.Helper()
	r := start(t, s, 1)
	r.arrive(framed(always("A1")))
	for range n - 2 {
		r.arrive(framed(always("A1")))
	}
	if x := r.e.Image(); len(x.Held) != n || x.Counts.Unmade != 0 || x.Counts.Again != n-2 {
		t.Fatalf("held %d, counts %+v", len(x.Held), x.Counts)
	}
	return r
}

func TestHeldToTheLimit(t *testing.T) {
	s := roomy(pair())
	r := fill(t, s, 511)
	r.arrive(framed(always("A1")))
	r.counts(api.Counts{Again: 510})
	// A frame more is not made; all that belongs to it is done.
	r.arrive(framed(always("A1")))
	r.counts(api.Counts{Again: 511, Unmade: 1})
	r.arrive(framed(message("A9", "", "", "", "NK1")))
	r.counts(api.Counts{Again: 511, Refused: 1, Unmade: 2})
	r.submit(always("B1"))
	r.arrive(framed(always("A2")))
	x := r.e.Image()
	if x.Counts != (api.Counts{Again: 511, Refused: 1, Unmade: 4}) || len(x.Held) != 513 || x.Held[512].Seen.Kind != api.SeenDeliver || !x.Sent[0].Under || x.Dues[0] != 5 || len(x.Tables.In) != 2 || len(x.Tables.In[1].Commit) == 0 {
		t.Fatalf("%d held, image %+v, %v", len(x.Held), x.Counts, x.Sent)
	}
	// A refusal that is not sent is not one that was not made; nor is the answer to a copy that has none.
	r.arrive(framed(message("A9", "", "NE", "AL", "NK1")))
	r.counts(api.Counts{Again: 511, Refused: 2, Unmade: 4})
	r.arrive(framed(of("A3", "", "NE NE")))
	r.arrive(framed(of("A3", "", "NE NE")))
	r.counts(api.Counts{Again: 512, Refused: 2, Unmade: 4})
	r.tick(5)
	r.tick(5)
	x = r.e.Image()
	if x.Counts.Unmade != 5 || len(x.Held) != 515 || x.Held[514].Seen.State != api.StateFailed {
		t.Fatalf("%d held, image %+v", len(x.Held), x.Counts)
	}
	seen, err := r.e.Sync()
	if err != nil || len(seen) != 515 || len(r.e.Image().Held) != 0 {
		t.Fatalf("%d seen, %v", len(seen), err)
	}
	// There is room again: what was not made is asked for by a copy.
	r.arrive(framed(always("A2")), "out "+reply("CA", "A2", ""))
	if !slices.Equal(r.e.Image().Open, []string{"A1", "A2", "A3"}) {
		t.Errorf("open %v", r.e.Image().Open)
	}
}

// A copy with two answers, where there is room for one.
func TestHeldToTheLimitWithinAFrame(t *testing.T) {
	r := start(t, roomy(pair()), 1)
	r.arrive(framed(always("A1")))
	r.e.Sync()
	r.verdict("A1", "AA", nil)
	for range 255 {
		r.arrive(framed(always("A1")))
	}
	if n := len(r.e.Image().Held); n != 511 {
		t.Fatal(n)
	}
	r.arrive(framed(always("A1")))
	x := r.e.Image()
	if len(x.Held) != 512 || x.Counts.Unmade != 1 || string(x.Held[511].Seen.Text) != string(framed(reply("CA", "A1", ""))) {
		t.Errorf("%d held, counts %+v", len(x.Held), x.Counts)
	}
}

// The link message's sendings are frames like others; what becomes of it is told.
func TestHeldToTheLimitWithALinkMessage(t *testing.T) {
	s := roomy(numbers())
	s.Sides[1].Sequence = true
	r := start(t, s, 1)
	r.arrive(framed("MSH|^~\\&|||||||QRY^Q01|R1|||-1\r"))
	for range 511 {
		r.arrive(framed("MSH|^~\\&|||||||QRY^Q01|P1|||0\r"))
	}
	r.counts(api.Counts{})
	r.arrive(framed("MSH|^~\\&|||||||QRY^Q01|P1|||0\r"))
	r.counts(api.Counts{Unmade: 1})
	r.probe("Q1")
	r.tick(5)
	r.counts(api.Counts{Unmade: 3})
	r.tick(5)
	x := r.e.Image()
	if x.Counts.Unmade != 3 || len(x.Held) != 513 || x.Held[512].Seen.Control != "Q1" || x.Link != (api.LinkWait{}) {
		t.Errorf("%d held, %+v", len(x.Held), x.Counts)
	}
}

// Outputs of one step count among those that are held, though they will leave at its end.
func TestHeldWithinAStep(t *testing.T) {
	s := roomy(pair())
	s.Sides[0].Every, s.Sides[0].Tries = 1, 16
	r := start(t, s, 0)
	for i := range 32 {
		r.submit(original("A" + strconv.Itoa(i)))
	}
	seen, err := r.e.Sync()
	if err != nil || len(seen) != 32 {
		t.Fatal(seen, err)
	}
	// 16 times 32 sendings are just as many as may be held; the ends come behind them.
	seen, err = r.e.Tick(100)
	if err != nil || len(seen) != 512 || r.e.Image().Counts.Unmade != 0 || len(r.e.Image().Held) != 32 {
		t.Fatalf("%d seen, %v, %+v", len(seen), err, r.e.Image().Counts)
	}
	ends, _ := r.e.Sync()
	for i := range 32 {
		r.submit(original("A" + strconv.Itoa(i)))
	}
	if len(ends) != 32 {
		t.Fatal(ends)
	}
	// Now 32 are held that the step will not let out: as many are not made.
	seen, err = r.e.Tick(100)
	if x := r.e.Image(); err != nil || len(seen) != 0 || x.Counts.Unmade != 32 || len(x.Held) != 512+32 {
		t.Fatalf("%d seen, %v, %+v", len(seen), err, x.Counts)
	}
}

// What is held is gone with a crash.
func TestHeldIsForgotten(t *testing.T) {
	r := start(t, pair(), 1)
	r.arrive(framed(always("A1")))
	r.restart([2]api.Tear{}, 0)
	if x := r.e.Image(); !reflect.DeepEqual(fmt.Sprint(x), fmt.Sprint(api.EngineImage{})) {
		t.Errorf("image %+v", x)
	}
	r.sync()
}

// Counts stop at 2^53; nobody can wait for that, so they are put there.
func TestCountsStop(t *testing.T) {
	const end = 9007199254740992
	r := start(t, pair(), 1)
	r.e.counts = api.Counts{Strange: end - 1, Garbage: end - 2, Silent: end - 1, Again: end - 1, Refused: end - 1, Unmade: end - 1}
	for range 2 {
		r.arrive(heard("AA", "none", ""))
		r.arrive(append([]byte("abc"), framed("nothing")...))
		r.arrive(framed(message("A9", "", "NE", "", "NK1")))
	}
	r.counts(api.Counts{Strange: end, Garbage: end, Silent: end, Again: end - 1, Refused: end, Unmade: end - 1})
	r.arrive(framed(original("A1")))
	r.arrive(framed(original("A1")))
	r.arrive(framed(original("A1")))
	r.counts(api.Counts{Strange: end, Garbage: end, Silent: end, Again: end, Refused: end, Unmade: end - 1})
}
