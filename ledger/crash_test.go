package ledger

import (
	"errors"
	"math/rand/v2"
	"strconv"
	"testing"

	"courier/api"
	"courier/disk"
	"courier/wal"
)

// P1607, P1608, P1609

// clone gives a disk that holds what is safe of another.
func clone(t *testing.T, d *disk.Disk) *disk.Disk {
	t.Helper()
	c, err := disk.From(d.Image())
	done(t, err)
	return c
}

// replays holds a Ledger that Open has answered against wal's replay, one record behind the other.
func replays(t *testing.T, d *disk.Disk, terms api.Terms, l *Ledger) {
	t.Helper()
	_, found, err := wal.Open(clone(t, d))
	done(t, err)
	x, err := Unpack(terms, found.Snapshot)
	done(t, err)
	for _, b := range found.Records {
		r, err := Decode(b)
		done(t, err)
		x, err = Apply(terms, x, r)
		done(t, err)
	}
	if !isSame(l.Tables(), x) {
		t.Fatalf("%+v, want %+v", l.Tables(), x)
	}
}

func TestP1607Replay(t *testing.T) {
	for seed := range 4 {
		d := dice{rand.New(rand.NewPCG(7, uint64(seed)))}
		for _, terms := range allTerms(1 + seed) {
			on, l := formatted(t, terms)
			for range 60 {
				for range d.IntN(20) {
					if r := d.record(terms, l.Tables()); l.Write(r) == nil && d.IntN(30) == 0 {
						done(t, l.Compact())
					}
				}
				_, err := l.Sync()
				done(t, err)
				k, err := Open(on, terms)
				done(t, err)
				replays(t, on, terms, k)
				l = k
			}
		}
	}
}

// Of records that wait a crash leaves those that are whole: each tear, of each number of bytes, with zeros behind them or not.
func TestP1608CrashInRecords(t *testing.T) {
	for _, terms := range allTerms(1) {
		list := story(terms)
		all := stages(t, terms, begun(terms), list)
		for safe := range list {
			made := func() (*disk.Disk, []int) {
				d, l := formatted(t, terms)
				var ends []int
				for i, r := range list {
					if i == safe {
						_, err := l.Sync()
						done(t, err)
						ends = []int{l.Stat().Bytes}
					}
					done(t, l.Write(r))
					ends = append(ends, l.Stat().Bytes)
				}
				return d, ends
			}
			_, ends := made()
			for keep := 0; keep <= ends[len(ends)-1]-ends[0]; keep += 1 + keep%3 {
				for _, zeros := range []int{0, 5, 1 << 24} {
					d, ends := made()
					d.Crash([2]api.Tear{{}, {Keep: keep, Zeros: zeros}})
					whole := 0
					for whole+1 < len(ends) && ends[whole+1]-ends[0] <= keep {
						whole++
					}
					l, err := Open(d, terms)
					done(t, err)
					if !isSame(l.Tables(), all[safe+whole]) {
						t.Fatalf("safe %d, keep %d: %+v, want %+v", safe, keep, l.Tables(), all[safe+whole])
					}
				}
			}
		}
	}
}

// A fuse at each write of a run, and then a crash that leaves nothing, all, or a part of what waits.
func TestP1608EachFuse(t *testing.T) {
	for _, terms := range allTerms(1) {
		list := story(terms)
		all := stages(t, terms, begun(terms), list)
		for fuse := range 60 {
			for _, tear := range []api.Tear{{}, {Keep: 1 << 24}, {Keep: 40}, {Keep: 9, Zeros: 1 << 24}, {Zeros: 3}} {
				d, l := formatted(t, terms)
				d.Fuse(fuse)
				written, safe, failed := 0, 0, false
				for i, r := range list {
					if l.Write(r) != nil {
						failed = true
						break
					}
					written++
					var err error
					switch i % 3 {
					case 1:
						_, err = l.Sync()
					case 2:
						err = l.Compact()
					}
					if err != nil {
						failed = true
						break
					}
					if i%3 != 0 {
						safe = written
					}
				}
				if failed == d.Alive() {
					t.Fatalf("fuse %d: refused %v, alive %v", fuse, failed, d.Alive())
				}
				d.Crash([2]api.Tear{tear, tear})
				k, err := Open(d, terms)
				done(t, err)
				isOneOf(t, "fuse "+strconv.Itoa(fuse), k.Tables(), all, safe, written)
			}
		}
	}
}

// isOneOf: the tables are those behind a beginning of the records, of so many at least and at most; it tells of how many.
func isOneOf(t *testing.T, what string, x api.Tables, all []api.Tables, least, most int) int {
	t.Helper()
	for n := most; n >= least; n-- {
		if isSame(x, all[n]) {
			return n
		}
	}
	t.Fatalf("%s: %+v is not what %d to %d records make", what, x, least, most)
	return 0
}

// What Format leaves where it is stopped: no log, or the beginning.
func TestP1608CrashInFormat(t *testing.T) {
	for _, terms := range allTerms(1) {
		size := len(lay(1, snapshotOf(begun(terms))))
		for fuse := range 5 {
			for keep := range size + 1 {
				d := disk.New()
				d.Fuse(fuse)
				if _, err := Format(d, terms); (err == nil) != (fuse == 4) {
					t.Fatalf("fuse %d: %v", fuse, err)
				}
				d.Crash([2]api.Tear{{Keep: keep}, {Keep: keep, Zeros: keep % 7}})
				l, err := Open(d, terms)
				if fuse == 4 || fuse == 3 && keep == size {
					done(t, err)
					if !isSame(l.Tables(), begun(terms)) {
						t.Fatalf("%+v", l.Tables())
					}
				} else {
					passed(t, "Open", err, api.ErrNoLog, api.ErrNoLog)
				}
			}
		}
	}
}

// run is a Ledger, and what may be found of it behind a crash.
type run struct {
	t     *testing.T
	dice  dice
	terms api.Terms
	disk  *disk.Disk
	l     *Ledger
	all   []api.Tables // behind each record since Format
	safe  int          // so many of them are
}

func (m *run) written() int { return len(m.all) - 1 }

// looks: the Ledger tells the tables behind all that it has taken.
func (m *run) looks() {
	m.t.Helper()
	if !isSame(m.l.Tables(), m.all[m.written()]) {
		m.t.Fatalf("%+v, want %+v", m.l.Tables(), m.all[m.written()])
	}
}

func (m *run) write() {
	m.t.Helper()
	r := m.dice.record(m.terms, m.all[m.written()])
	if m.dice.IntN(10) == 0 {
		r = m.dice.spoilt(r)
	}
	err := m.l.Write(r)
	y, may := makes(m.terms, m.all[m.written()], r)
	switch at := flawOf(r); {
	case at != 0:
		refused(m.t, "Write", err, api.ErrBook, at)
	case !may:
		refused(m.t, "Write", err, api.ErrBook, 0)
	case err == nil:
		m.all = append(m.all, y)
	case !errors.Is(err, api.ErrDead) || m.l.Stat() != api.LogStat{}:
		m.t.Fatal(err)
	}
}

func (m *run) sync() {
	waiting := m.l.Stat().Waiting
	n, err := m.l.Sync()
	if err == nil {
		m.safe = m.written()
	}
	if err == nil && n != waiting || err != nil && n != 0 {
		m.t.Fatalf("Sync: %d, %v; %d have waited", n, err, waiting)
	}
}

func (m *run) compact() {
	if m.l.Compact() == nil {
		m.safe = m.written()
	}
}

// restart opens the log, behind a crash or not.
func (m *run) restart(crash bool) {
	m.t.Helper()
	if crash {
		tear := func() api.Tear {
			return api.Tear{Keep: pick(m.dice, 0, 1<<24, m.dice.IntN(2000)), Zeros: pick(m.dice, 0, 1<<24, m.dice.IntN(200))}
		}
		m.disk.Crash([2]api.Tear{tear(), tear()})
	}
	l, err := Open(m.disk, m.terms)
	if err != nil {
		passed(m.t, "Open", err, api.ErrDisk, api.ErrDead)
		return
	}
	n := isOneOf(m.t, "Open", l.Tables(), m.all, m.safe, m.written())
	m.l, m.all, m.safe = l, m.all[:n+1], n
	replays(m.t, m.disk, m.terms, l)
}

func TestP1608AnyCalls(t *testing.T) {
	for seed := range 24 {
		d := dice{rand.New(rand.NewPCG(8, uint64(seed)))}
		terms := allTerms(1 + seed%5)[seed%4]
		on, l := formatted(t, terms)
		m := &run{t: t, dice: d, terms: terms, disk: on, l: l, all: []api.Tables{begun(terms)}}
		for range 1200 {
			switch n := d.IntN(40); {
			case n < 28:
				m.write()
			case n < 31:
				m.sync()
			case n < 33:
				m.compact()
			case n < 35:
				m.disk.Fuse(d.IntN(12) - 1)
			case n < 36 && m.disk.Alive():
				m.restart(false)
			default:
				if d.IntN(4) == 0 || !m.disk.Alive() {
					m.restart(true)
				}
			}
			m.looks()
		}
		if len(m.all) < 2 {
			t.Errorf("seed %d: nothing was written", seed)
		}
	}
}

// A Compact that was answered without an error is not seen in Tables, now or behind any crash.
func TestP1609CompactIsNotSeen(t *testing.T) {
	for _, terms := range allTerms(2) {
		list := story(terms)
		all := stages(t, terms, begun(terms), list)
		for n := range all {
			for _, tear := range []api.Tear{{}, {Keep: 1 << 24}, {Keep: 20}, {Zeros: 1 << 24}} {
				d, l := formatted(t, terms)
				for _, r := range list[:n] {
					done(t, l.Write(r))
				}
				for range 2 {
					done(t, l.Compact())
					if !isSame(l.Tables(), all[n]) {
						t.Fatalf("now: %+v, want %+v", l.Tables(), all[n])
					}
				}
				d.Crash([2]api.Tear{tear, tear})
				k, err := Open(d, terms)
				done(t, err)
				if !isSame(k.Tables(), all[n]) {
					t.Fatalf("behind a crash: %+v, want %+v", k.Tables(), all[n])
				}
				// And it goes on as one that was not compacted.
				for i, r := range list[n:] {
					done(t, k.Write(r))
					if !isSame(k.Tables(), all[n+i+1]) {
						t.Fatalf("behind record %d: %+v", n+i, k.Tables())
					}
				}
			}
		}
	}
}

// The fullest tables are compacted, and found again.
func TestP1609FullestTables(t *testing.T) {
	terms := api.Terms{Sends: true, Takes: true, Keep: 64}
	x := fullest(terms)
	d := diskOf(t, 2, snapshotOf(x))
	l, err := Open(d, terms)
	done(t, err, l.Compact())
	d.Crash([2]api.Tear{})
	k, err := Open(d, terms)
	if err != nil || !isSame(k.Tables(), x) || k.Stat().Gen != 3 {
		t.Fatalf("%v", err)
	}
	done(t, k.Write(api.Record{Kind: api.RecFinal, Control: x.Out[0].Control, State: api.WantClosed}))
	if got := k.Tables(); len(got.Out) != 31 || len(got.In) != 97 {
		t.Errorf("%d, %d", len(got.Out), len(got.In))
	}
}
