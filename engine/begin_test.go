package engine

import (
	"errors"
	"fmt"
	"reflect"
	"testing"

	"courier/api"
	"courier/disk"
	"courier/ledger"
	"courier/setup"
	"courier/wal"
)

// P1801, P1802

type making func(s api.Setup, side int, d *disk.Disk, now int) (*Engine, []api.Seen, error)

func makers() map[string]making { return map[string]making{"New": New, "Open": Open} }

// dead gives a disk that has died.
func dead() *disk.Disk {
	d := disk.New()
	d.Fuse(0)
	_ = d.Sync(0)
	return d
}

// used gives the disk of an engine of that setup with a message in its tables.
func used(t *testing.T, s api.Setup, side int) *disk.Disk {
	t.Helper()
	r := start(t, s, side)
	r.submit(always("A1"))
	r.e.Sync()
	return r.d
}

func wrongSetup() api.Setup {
	s := pair()
	s.Sides[1].Keep = 65
	return s
}

// Each call has one or more reasons to be refused; the first of them counts.
func TestMakingIsRefused(t *testing.T) {
	const fine, below, above = 0, -1, latest + 1
	for name, make := range makers() {
		for _, c := range []struct {
			what  string
			setup api.Setup
			side  int
			disk  *disk.Disk
			now   int
			code  api.Errno
			at    int
		}{
			{"side 2", pair(), 2, disk.New(), fine, api.ErrArg, 1},
			{"side -1", pair(), -1, disk.New(), fine, api.ErrArg, 1},
			{"side 256", pair(), 256, disk.New(), fine, api.ErrArg, 1},
			{"no disk", pair(), 0, nil, fine, api.ErrZero, 2},
			{"a plain disk", pair(), 1, &disk.Disk{}, fine, api.ErrZero, 2},
			{"a clock below 0", pair(), 0, used(t, pair(), 0), below, api.ErrArg, 3},
			{"a clock beyond its end", pair(), 0, used(t, pair(), 0), above, api.ErrArg, 3},
			{"a dead disk", pair(), 0, dead(), fine, api.ErrDead, 2},
			{"side ahead of all", wrongSetup(), 2, nil, below, api.ErrArg, 1},
			{"the disk ahead of the clock", pair(), 0, nil, below, api.ErrZero, 2},
			{"the clock ahead of death", pair(), 0, dead(), above, api.ErrArg, 3},
		} {
			before := ""
			if c.disk != nil {
				before = diskText(c.disk)
			}
			e, seen, err := make(c.setup, c.side, c.disk, c.now)
			if e != nil || len(seen) != 0 {
				t.Fatalf("%s, %s: %v", name, c.what, seen)
			}
			isFault(t, name+", "+c.what, err, c.code, c.at)
			if c.disk != nil && diskText(c.disk) != before {
				t.Errorf("%s, %s: the disk was written", name, c.what)
			}
		}
	}
}

func TestMakingIsRefusedBySetup(t *testing.T) {
	for name, make := range makers() {
		for _, d := range []*disk.Disk{disk.New(), nil, dead()} {
			s := wrongSetup()
			e, seen, err := make(s, 1, d, -1)
			if e != nil || len(seen) != 0 {
				t.Fatalf("%s: %v", name, seen)
			}
			isUnder(t, name, err, "setup", api.ErrSetup, 0)
			if want := setup.Check(s); !reflect.DeepEqual(errors.Unwrap(err), want) {
				t.Errorf("%s: under is %v, want %v", name, errors.Unwrap(err), want)
			}
		}
		s := pair()
		s.Profile = "message"
		_, _, err := make(s, 0, disk.New(), 0)
		isUnder(t, name, err, "setup", api.ErrSetup, 0)
	}
}

func TestNewIsBegun(t *testing.T) {
	for _, now := range []int{0, 1, latest} {
		for i := range 4 {
			s := pair()
			s.Sides[0].Sequence, s.Sides[1].Sequence = i&1 != 0, i&2 != 0
			for side := range 2 {
				r := startAt(t, s, side, now)
				want := api.EngineImage{Now: now}
				want.Tables, _ = ledger.Begin(api.Terms{Sends: s.Sides[side].Sequence, Takes: s.Sides[1-side].Sequence, Keep: 1})
				if got := r.e.Image(); fmt.Sprint(got) != fmt.Sprint(want) || !r.e.Alive() {
					t.Errorf("image %+v, want %+v", got, want)
				}
				if w := r.d.Counts(); w != (api.Writes{Appends: 1, Syncs: 1, Cuts: 2}) {
					t.Errorf("writes: %+v", w)
				}
			}
		}
	}
}

// New wipes whatever the disk had.
func TestNewForgets(t *testing.T) {
	d := used(t, pair(), 0)
	e, seen, err := New(pair(), 0, d, 0)
	if err != nil || len(seen) != 1 || seen[0].Kind != api.SeenUp || len(e.Image().Tables.Out) != 0 {
		t.Fatalf("%v, %v", seen, err)
	}
}

func TestNewDies(t *testing.T) {
	for fuse := range 4 {
		for side := range 2 {
			d := disk.New()
			d.Fuse(fuse)
			e, seen, err := New(pair(), side, d, 0)
			if e != nil || err != nil || fmt.Sprint(seen) != fmt.Sprint([]api.Seen{{Kind: api.SeenDown, Side: side}}) {
				t.Errorf("fuse %d: %v, %v", fuse, seen, err)
			}
		}
	}
	d := disk.New()
	d.Fuse(4)
	if e, _, err := New(pair(), 0, d, 0); e == nil || err != nil {
		t.Errorf("fuse 4: %v", err)
	}
}

func TestOpenIsRefusedByLedger(t *testing.T) {
	foreign := disk.New()
	if err := wal.Format(foreign, []byte("another log")); err != nil {
		t.Fatal(err)
	}
	for _, c := range []struct {
		what string
		disk *disk.Disk
		side int
		s    api.Setup
		code api.Errno
	}{
		{"an empty disk", disk.New(), 0, pair(), api.ErrNoLog},
		{"another log", foreign, 0, pair(), api.ErrForm},
		{"tables of a side with sequencing", used(t, numbers(), 0), 0, pair(), api.ErrForm},
	} {
		e, seen, err := Open(c.s, c.side, c.disk, 0)
		if e != nil || len(seen) != 0 {
			t.Fatalf("%s: %v", c.what, seen)
		}
		isUnder(t, c.what, err, "ledger", c.code, 2)
		if !errors.Is(err, c.code) {
			t.Errorf("%s: %v", c.what, err)
		}
	}
	if _, _, err := Open(pair(), 0, used(t, pair(), 0), 0); err != nil {
		t.Errorf("of the same setup: %v", err)
	}
}

// A clock that stands ahead of a message that was accepted is refused behind the ledger's reasons.
func TestOpenIsRefusedByClock(t *testing.T) {
	r := startAt(t, pair(), 1, 7)
	r.arrive(framed(original("A1")))
	_, _, err := Open(pair(), 1, torn(t, r.d, [2]api.Tear{{}, {Keep: api.MaxArea}}), 6)
	isFault(t, "ahead of the only one", err, api.ErrArg, 3)
	r.tick(3)
	r.arrive(framed(original("A2")))
	r.sync("deliver A1 0 new "+original("A1"), "deliver A2 0 new "+original("A2"))
	r.tick(1)
	for _, now := range []int{0, 7, 9} {
		e, seen, err := Open(pair(), 1, r.d, now)
		if e != nil || len(seen) != 0 {
			t.Fatalf("now %d: %v", now, seen)
		}
		isFault(t, "a clock too early", err, api.ErrArg, 3)
	}
	r.reopen(10, "deliver A1 0 again "+original("A1"), "deliver A2 0 again "+original("A2"))
	r.verdict("A2", "AA", nil)
	r.verdict("A1", "AA", nil)
	r.sync("out "+at(reply("AA", "A2", ""), 10), "out "+at(reply("AA", "A1", ""), 10))
	_, _, err = Open(pair(), 1, r.d, 9)
	isFault(t, "the last one is decided, and kept", err, api.ErrArg, 3)
}

// Open with a fuse: it may die while the log is mended, and in the turn.
func TestOpenDies(t *testing.T) {
	s := numbers()
	torn := func() *disk.Disk {
		r := start(t, s, 0)
		r.submit(always("A1"))
		r.e.Sync()
		r.arrive(heard("CE", "A1", ""))
		r.sync("answer A1 answered CE")
		r.submit(always("A2"))
		r.d.Crash([2]api.Tear{{Keep: 0}, {Keep: 100}})
		return r.d
	}
	writes := 0
	for {
		d := torn()
		d.Fuse(writes)
		e, seen, err := Open(s, 0, d, 0)
		if err != nil {
			t.Fatal(err)
		}
		if e != nil {
			break
		}
		if len(seen) != 1 || seen[0].Kind != api.SeenDown || d.Alive() {
			t.Fatalf("fuse %d: %v", writes, seen)
		}
		d.Crash([2]api.Tear{})
		if _, seen, err := Open(s, 0, d, 0); err != nil || seen[0].Kind != api.SeenUp {
			t.Fatalf("behind fuse %d: %v, %v", writes, seen, err)
		}
		writes++
	}
	if writes == 0 {
		t.Error("nothing was written")
	}
}

// A number's record of the turn is written by Open, and dies with it: no engine, and nothing leaves but that it is down.
func TestOpenDiesInItsTurn(t *testing.T) {
	s := numbers()
	r := start(t, s, 0)
	r.probe("P1", "out MSH|^~\\&|LAB||HIS||20260105000000||QRY^Q01|P1|P|2.5.1|0\r")
	r.submit(always("A1"))
	r.sync()
	r.d.Crash([2]api.Tear{})
	r.d.Fuse(0)
	e, seen, err := Open(s, 0, r.d, 0)
	if e != nil || err != nil || len(seen) != 1 || seen[0].Kind != api.SeenDown {
		t.Fatalf("%v, %v", seen, err)
	}
	r.restart([2]api.Tear{}, 0)
	if x := r.e.Image(); x.Written != 1 || x.Safe != 0 || x.Tables.Next != 2 || len(x.Held) != 1 {
		t.Errorf("image %+v", x)
	}
	r.sync("out " + of("A1", "1", "AL AL"))
}

// Open tells the open messages again, in order of acceptance, and then lets out the outstanding ones, in order of submission.
func TestOpenGoesOn(t *testing.T) {
	s := roomy(pair())
	r := start(t, s, 1)
	for _, id := range []string{"I3", "I1", "I2"} {
		r.arrive(framed(original(id)))
	}
	r.sync("deliver I3 0 new "+original("I3"), "deliver I1 0 new "+original("I1"), "deliver I2 0 new "+original("I2"))
	r.verdict("I1", "AA", nil)
	r.submit(always("B2"))
	r.submit(of("B1", "", "NE NE"))
	r.submit(original("B3"))
	r.e.Sync()
	r.d.Crash([2]api.Tear{})
	// What NE and NE wanted was closed with its first sending.
	r.reopen(4, "deliver I3 0 again "+original("I3"), "deliver I2 0 again "+original("I2"), "out "+always("B2"), "out "+original("B3"))
	x := r.e.Image()
	if x.Written != 0 || x.Safe != 0 || x.Now != 4 || !reflect.DeepEqual(x.Open, []string{"I3", "I2"}) || !reflect.DeepEqual(x.Dues, []int{9, 9}) {
		t.Errorf("image %+v", x)
	}
}

// A closed one whose record the crash has taken goes out again; its end waits for the record that the turn writes, and what goes out behind that waits too.
func TestOpenWaitsForItsTurn(t *testing.T) {
	r := start(t, pair(), 0)
	r.submit(of("A1", "", "NE NE"))
	r.submit(original("A2"))
	if x := r.e.Image(); x.Written != 3 || len(x.Held) != 3 {
		t.Fatalf("image %+v", x)
	}
	r.d.Crash([2]api.Tear{{Keep: api.MaxArea}, {Keep: api.MaxArea}})
	r.reopen(0, "out "+original("A2"))
	// Of both records of A1 just the first is left.
	r = start(t, pair(), 0)
	r.submit(of("A1", "", "NE NE"))
	r.d.Crash([2]api.Tear{{}, {Keep: 100}})
	r.reopen(0, "out "+of("A1", "", "NE NE"))
	r.sync("answer A1 closed")
}

// Disks that layer 16 takes and no engine wrote: nothing panics.
func TestOpenOfForeignTables(t *testing.T) {
	for i := range 4 {
		s := pair()
		s.Sides[0].Sequence, s.Sides[1].Sequence = i&1 != 0, i&2 != 0
		terms := api.Terms{Sends: s.Sides[0].Sequence, Takes: s.Sides[1].Sequence, Keep: 1}
		d := disk.New()
		book, err := ledger.Format(d, terms)
		if err != nil {
			t.Fatal(err)
		}
		for j, text := range []string{"x", "\x0b\x1c", "MSH|^~\\&", "MSH|^~\\&||||||||other||||||XX|YY", string(make([]byte, 8192))} {
			id := string(rune('a' + j))
			number := 0
			if terms.Takes {
				number = j + 1
			}
			cond := api.Conditions{Enhanced: j%2 == 0}
			if err := book.Write(api.Record{Kind: api.RecOut, Control: id, Text: []byte(text), Cond: cond}); err != nil {
				t.Fatal(err)
			}
			if err := book.Write(api.Record{Kind: api.RecIn, Control: id, Text: []byte(text), Number: number, Commit: []byte("\x0b")}); err != nil {
				t.Fatal(err)
			}
		}
		if _, err := book.Sync(); err != nil {
			t.Fatal(err)
		}
		e, _, err := Open(s, 0, d, 0)
		if err != nil {
			t.Fatal(err)
		}
		for j := range 5 {
			id := string(rune('a' + j))
			e.Verdict(id, "AE", nil)
			e.Arrive(heard("CA", id, ""))
			e.Arrive(heard("AE", id, "||4", "ERR|||207"))
			e.Arrive(framed(of(id, "7", "AL AL")))
			e.Tick(6)
		}
		e.Submit([]byte(original("Z")))
		e.Tick(100)
		e.Compact()
		e.Image()
	}
}
