package audit

import (
	"slices"

	"courier/api"
	"courier/ledger"
	"courier/profile"
	"courier/stamp"
)

// noFuse: all writes are done.
const noFuse = -1

// rules are what a side is by the setup.
type rules struct {
	side    int
	own     api.Side
	other   api.Side
	version string
	start   api.Stamp
	profile *profile.Profile
	terms   api.Terms
}

// rulesOf are a side's by a setup that may be, of which no layer refuses a part.
func rulesOf(s api.Setup, side int) *rules {
	own, other := s.Sides[side], s.Sides[1-side]
	start, _ := stamp.Parse(s.Start)
	messages, _ := profile.Parse(s.Profile)
	return &rules{
		side: side, own: own, other: other, version: s.Version, start: start, profile: messages,
		terms: api.Terms{Sends: own.Sequence, Takes: other.Sequence, Keep: own.Keep},
	}
}

// endpoint is a side as tables. One that stands in a Pair is never changed: a step changes a copy.
type endpoint struct {
	*rules
	now     int
	fuse    int // how many writes more the disk does
	dead    bool
	unsure  bool // the disk died where a crash says whether the new snapshot is there
	durable api.Tables
	waits   []api.Record // written behind these, and not durable
	behind  int          // records behind the snapshot, those that wait too
	up      bool
	mind
}

// mind is what a side has while it is up. A crash forgets it.
type mind struct {
	tables    api.Tables
	written   int
	safe      int
	held      []api.Held
	sent      []sent // of the outstanding messages, as they stand in the tables
	link      question
	delivered []string // open entries whose delivery has left
	frame     frame
}

// newEndpoint gives a side at the beginning, up. The terms of a setup that may be are right.
func newEndpoint(s api.Setup, number int) *endpoint {
	r := rulesOf(s, number)
	x, _ := ledger.Begin(r.terms)
	return &endpoint{rules: r, fuse: noFuse, durable: x, up: true, mind: mind{tables: x}}
}

// copied gives a side that a step may change.
func (s *endpoint) copied() *endpoint {
	c := *s
	c.waits, c.held, c.sent, c.delivered = slices.Clone(s.waits), slices.Clone(s.held), slices.Clone(s.sent), slices.Clone(s.delivered)
	return &c
}

// write pays for one write, or finds the disk dead. What a step does behind that touches just what dies with the disk.
func (s *endpoint) write() bool {
	if s.dead || s.fuse == 0 {
		s.dead = true
		return false
	}
	if s.fuse > 0 {
		s.fuse--
	}
	return true
}

// record writes a record; the tables go on.
func (s *endpoint) record(r api.Record) {
	if s.write() {
		s.waits = append(s.waits, r)
		s.behind++
	}
	s.written++
	s.tables = applied(s.terms, s.tables, r)
}

// applied gives the tables behind a record. No side writes one that may not follow.
func applied(t api.Terms, x api.Tables, r api.Record) api.Tables {
	if next, err := ledger.Apply(t, x, r); err == nil {
		return next
	}
	return x
}

// syncLog makes all records durable.
func (s *endpoint) syncLog() {
	if s.write() {
		s.durable, s.waits, s.safe = s.tables, nil, s.written
	}
}

// compactLog begins the log anew, write by write. It says what a crash will find, wherever the disk dies in it.
func (s *endpoint) compactLog() {
	if len(s.waits) > 0 {
		s.syncLog()
	}
	// The other area is emptied, and the new snapshot put there.
	if !s.write() || !s.write() {
		return
	}
	if !s.write() {
		// Where no record stands behind the elder snapshot the two are the same.
		s.unsure = s.behind > 0
		return
	}
	// The new snapshot is safe: the elder log goes, whether by this write or by the next restart.
	s.behind = 0
	s.write()
}

// step does a step that was not refused, behind the compaction that may come ahead of it.
func (s *endpoint) step(work func()) []api.Seen {
	var left []api.Seen
	if s.behind >= s.own.Compact {
		s.compactLog()
		if s.dead {
			return s.goDown(nil)
		}
		left = s.leave()
	}
	return s.end(left, work)
}

// end does the work of a step, and lets out what may leave behind what has left.
func (s *endpoint) end(left []api.Seen, work func()) []api.Seen {
	work()
	if s.dead {
		return s.goDown(left)
	}
	return append(left, s.leave()...)
}

func (s *endpoint) goDown(left []api.Seen) []api.Seen {
	s.up, s.mind = false, mind{}
	return append(left, down(s.side))
}

func (s *endpoint) sync() ([]api.Seen, api.Errno) { return s.end(nil, s.syncLog), api.OK }

func (s *endpoint) compact() ([]api.Seen, api.Errno) { return s.end(nil, s.compactLog), api.OK }

// chosen is called for each choice: the side behind it, and what was seen.
type chosen func(*endpoint, []api.Seen)

// crash chooses what is left of the records that wait, and of a Compact that came half way.
func (s *endpoint) crash(tears [2]api.Tear, choose chosen) {
	isAll := tears[0].Keep >= api.MaxArea && tears[1].Keep >= api.MaxArea
	isNone := tears[0].Keep <= 0 && tears[1].Keep <= 0
	x := s.durable
	for n := 0; n <= len(s.waits); n++ {
		if n > 0 {
			x = applied(s.terms, x, s.waits[n-1])
		}
		if isAll && n < len(s.waits) || isNone && n > 0 {
			continue
		}
		behind := s.behind - len(s.waits) + n
		if !s.unsure || !isAll {
			s.crashed(x, behind, choose)
		}
		if s.unsure && !isNone {
			s.crashed(x, 0, choose)
		}
	}
}

func (s *endpoint) crashed(x api.Tables, behind int, choose chosen) {
	var seen []api.Seen
	if s.up {
		seen = []api.Seen{down(s.side)}
	}
	choose(&endpoint{rules: s.rules, now: s.now, fuse: noFuse, durable: x, behind: behind}, seen)
}

// restart chooses how many writes the log needs until it can be read; nobody can tell but by a fuse.
func (s *endpoint) restart(choose chosen) {
	most := 0
	if s.fuse != noFuse {
		most = 2
	}
	for writes := range most + 1 {
		c := s.copied()
		for range writes {
			c.write()
		}
		choose(c, c.open())
	}
}

// open is a restart behind the reading of the log.
func (s *endpoint) open() []api.Seen {
	s.up, s.mind = true, mind{tables: s.durable, sent: make([]sent, len(s.durable.Out))}
	left := s.end([]api.Seen{up(s.side)}, func() {
		s.deliverAgain()
		s.turn()
	})
	if s.up {
		return left
	}
	// Of a restart in which the disk died nobody is told that the side came up.
	return left[1:]
}

// stamp is the time of now. Layer 1 takes every tick of a clock.
func (s *endpoint) stamp() string {
	at, _ := stamp.At(s.start, s.now)
	text, _ := stamp.Print(at)
	return text
}

func up(side int) api.Seen { return api.Seen{Kind: api.SeenUp, Side: side} }

func down(side int) api.Seen { return api.Seen{Kind: api.SeenDown, Side: side} }
