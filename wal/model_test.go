package wal

import (
	"bytes"
	"encoding/binary"
	"errors"
	"math/rand/v2"
	"slices"
	"strings"
	"testing"

	"courier/api"
	"courier/disk"
)

// readArea reads an area the other way round: it lays again what it believes to stand there, and holds the bytes against that.
func readArea(b []byte, area int) (gen uint64, snapshot string, records []string, whole int) {
	content := func(at, least, most int) (string, bool) {
		if len(b) < at+13 {
			return "", false
		}
		n := binary.BigEndian.Uint32(b[at:])
		if int64(n) < int64(least) || int64(n) > int64(most) || int64(at)+13+int64(n) > int64(len(b)) {
			return "", false
		}
		text := string(b[at+12 : at+12+int(n)])
		return text, bytes.HasPrefix(b[at:], layRecord(text))
	}
	if len(b) < 17 {
		return 0, "", nil, 0
	}
	gen = binary.BigEndian.Uint64(b[4:])
	if !bytes.HasPrefix(b, layHead(gen)) || gen == 0 || gen > 1<<62 || gen%2 != uint64(area) {
		return 0, "", nil, 0
	}
	snapshot, ok := content(17, 0, 2097152)
	if !ok {
		return 0, "", nil, 0
	}
	for {
		whole = len(lay(gen, snapshot, records...))
		r, ok := content(whole, 1, 20000)
		if !ok {
			return gen, snapshot, records, whole
		}
		records = append(records, r)
	}
}

// twin plays on a second disk the writes that the promises name, and holds both against each other.
type twin struct {
	t    *testing.T
	r    *rand.Rand
	d, e *disk.Disk
	l    *Log
	dead bool
	stat api.LogStat

	// What P307 speaks of: the generation in use, and the one that a Compact began.
	gen      uint64
	snapshot string
	records  []string
	safe     int
	next     string
	under    bool // a Compact was refused
	unsure   bool // a Format was refused: there may be any log, or none
}

// writes plays them on the second disk, up to the first that is refused.
func (m *twin) writes(list ...func() error) bool {
	for _, w := range list {
		if w() != nil {
			return false
		}
	}
	return true
}

func (m *twin) cut(area, n int) func() error {
	return func() error { return m.e.Cut(area, n) }
}

func (m *twin) put(area int, b []byte) func() error {
	return func() error { return m.e.Append(area, b) }
}

func (m *twin) sync(area int) func() error {
	return func() error { return m.e.Sync(area) }
}

// same holds all that can be seen of the two disks, and the log's Stat.
func (m *twin) same(what string) {
	m.t.Helper()
	for area := range 2 {
		n, _ := m.d.Len(area)
		k, _ := m.e.Len(area)
		p, _ := m.d.Read(area, 0, n)
		q, _ := m.e.Read(area, 0, k)
		if n != k || !bytes.Equal(p, q) || !bytes.Equal(m.d.Image()[area], m.e.Image()[area]) {
			m.t.Fatalf("%s: area %d: % X, want % X", what, area, p, q)
		}
	}
	if m.d.Counts() != m.e.Counts() || m.d.Alive() != m.e.Alive() {
		m.t.Fatalf("%s: writes %+v, want %+v", what, m.d.Counts(), m.e.Counts())
	}
	if m.l != nil {
		want := m.stat
		if m.dead {
			want = api.LogStat{}
		}
		stands(m.t, what, m.l, want)
	}
}

// judge holds a call's error against what must be told: the writes were done, or the disk refused, and the log is dead.
func (m *twin) judge(what string, err error, ok bool) {
	m.t.Helper()
	if ok {
		done(m.t, err)
	} else {
		diskRefusal(m.t, what, err)
	}
}

func (m *twin) format() {
	text := m.text(0)
	err := Format(m.d, []byte(text))
	ok := m.writes(m.cut(0, 0), m.cut(1, 0), m.put(1, lay(1, text)), m.sync(1))
	m.judge("Format", err, ok)
	m.l, m.unsure = nil, !ok
	m.gen, m.snapshot, m.records, m.safe, m.under = 1, text, nil, 0, false
}

func (m *twin) open() {
	l, r, err := Open(m.d)
	m.l = nil
	if !m.e.Alive() {
		diskRefusal(m.t, "Open", err)
		nothing(m.t, "Open", l, r)
		return
	}
	var f [2]found
	var text [2]string
	var list [2][]string
	for area := range 2 {
		n, _ := m.e.Len(area)
		b, _ := m.e.Read(area, 0, n)
		f[area].size = n
		f[area].gen, text[area], list[area], f[area].whole = readArea(b, area)
	}
	if f[0].gen == 0 && f[1].gen == 0 {
		refusal(m.t, "Open", err, api.ErrNoLog)
		if !m.unsure {
			m.t.Fatal("the log is lost")
		}
		return
	}
	a := 0
	if f[1].gen > f[0].gen {
		a = 1
	}
	var list2 []func() error
	if f[1-a].size > 0 {
		list2 = append(list2, m.cut(1-a, 0))
	}
	if f[a].whole < f[a].size {
		list2 = append(list2, m.cut(a, f[a].whole))
	}
	if n, _ := m.e.Synced(a); n < f[a].whole {
		list2 = append(list2, m.sync(a))
	}
	ok := m.writes(list2...)
	m.judge("Open", err, ok)
	if !ok {
		nothing(m.t, "Open", l, r)
		return
	}
	replays(m.t, "Open", r, f[a].gen, f[0].size+f[1].size-f[a].whole, text[a], list[a]...)
	m.commits(r)
	m.l, m.dead = l, false
	m.stat = api.LogStat{Gen: f[a].gen, Area: a, Records: len(list[a]), Bytes: f[a].whole}
}

// commits is P307, said of what Open found.
func (m *twin) commits(r api.Replay) {
	m.t.Helper()
	got := texts(r.Records)
	elder := r.Gen == m.gen && string(r.Snapshot) == m.snapshot && len(got) >= m.safe && len(got) <= len(m.records) && slices.Equal(got, m.records[:len(got)])
	younger := m.under && r.Gen == m.gen+1 && string(r.Snapshot) == m.next && len(got) == 0
	if !elder && !younger && !m.unsure {
		m.t.Fatalf("Open found %d, %q, %q; in use were %d, %q, %q, safe %d; under way %v %q", r.Gen, r.Snapshot, got, m.gen, m.snapshot, m.records, m.safe, m.under, m.next)
	}
	m.gen, m.snapshot, m.records, m.safe, m.under, m.unsure = r.Gen, string(r.Snapshot), got, len(got), false, false
}

func (m *twin) append() {
	text := m.text(1)
	err := m.l.Append([]byte(text))
	if m.dead {
		refusal(m.t, "Append", err, api.ErrDead)
		return
	}
	ok := m.writes(m.put(m.stat.Area, layRecord(text)))
	m.judge("Append", err, ok)
	m.dead = !ok
	if ok {
		m.stat.Records, m.stat.Waiting, m.stat.Bytes = m.stat.Records+1, m.stat.Waiting+1, m.stat.Bytes+13+len(text)
		m.records = append(m.records, text)
	}
}

func (m *twin) syncAll() {
	n, err := m.l.Sync()
	if m.dead {
		refusal(m.t, "Sync", err, api.ErrDead)
		return
	}
	ok := m.writes(m.sync(m.stat.Area))
	m.judge("Sync", err, ok)
	m.dead = !ok
	want := 0
	if ok {
		want, m.stat.Waiting, m.safe = m.stat.Waiting, 0, len(m.records)
	}
	if n != want {
		m.t.Errorf("Sync tells %d, want %d", n, want)
	}
}

func (m *twin) compact() {
	text := m.text(0)
	err := m.l.Compact([]byte(text))
	if m.dead {
		refusal(m.t, "Compact", err, api.ErrDead)
		return
	}
	var list []func() error
	if m.stat.Waiting > 0 {
		list = append(list, m.sync(m.stat.Area))
	}
	a := m.stat.Area
	ok := m.writes(append(list, m.cut(1-a, 0), m.put(1-a, lay(m.stat.Gen+1, text)), m.sync(1-a), m.cut(a, 0))...)
	m.judge("Compact", err, ok)
	m.dead, m.under, m.next = !ok, !ok, text
	if ok {
		m.stat = api.LogStat{Gen: m.stat.Gen + 1, Area: 1 - a, Bytes: len(lay(1, text))}
		m.gen, m.snapshot, m.records, m.safe = m.gen+1, text, nil, 0
	}
}

func (m *twin) crash() {
	var tears [2]api.Tear
	for i := range tears {
		tears[i] = api.Tear{Keep: m.r.IntN(90) - 10, Zeros: m.r.IntN(60) - 10}
		if m.r.IntN(3) == 0 {
			tears[i] = api.Tear{Keep: 1 << 30}
		}
	}
	m.d.Crash(tears)
	m.e.Crash(tears)
	m.l = nil // what an elder log tells is not said
}

func (m *twin) fuse() {
	n := m.r.IntN(8) - 1
	m.d.Fuse(n)
	m.e.Fuse(n)
}

func (m *twin) text(least int) string {
	n := least + m.r.IntN(20)
	switch m.r.IntN(40) {
	case 0:
		n = 250 + m.r.IntN(300)
	case 1:
		return strings.Repeat("\x00", n)
	case 2:
		return strings.Repeat("\xA5", n)
	case 3:
		return string(lay(m.gen+1, "inside")) // what looks like an area is a content like any other
	}
	return string(someBytes(m.r, n))
}

// TestTwins: whatever is called, with whatever fuse and whatever crash, both disks are the same, and P307 holds.
func TestTwins(t *testing.T) {
	for seed := range uint64(400) {
		m := &twin{t: t, r: dice(seed), d: disk.New(), e: disk.New(), unsure: true}
		m.format()
		for range 150 {
			switch k := m.r.IntN(100); {
			case k < 1:
				m.format()
			case k < 8:
				m.fuse()
			case k < 18:
				m.crash()
			case m.l == nil || k < 30:
				m.open()
			case k < 75:
				m.append()
			case k < 88:
				m.syncAll()
			default:
				m.compact()
			}
			m.same("a step")
		}
		if t.Failed() {
			t.Fatalf("seed %d", seed)
		}
	}
}

// spoil makes of good bytes some that may be anything.
func spoil(r *rand.Rand, b []byte) []byte {
	for range r.IntN(3) {
		if len(b) == 0 {
			return someBytes(r, r.IntN(40))
		}
		at := r.IntN(len(b))
		switch r.IntN(6) {
		case 0:
			b[at] ^= 1 << r.IntN(8)
		case 1:
			b = b[:at]
		case 2:
			b = append(b[:at], make([]byte, r.IntN(30))...)
		case 3:
			b = append(b, someBytes(r, r.IntN(30))...)
		case 4:
			b = append(b[:at], b[min(len(b), at+r.IntN(20)):]...)
		case 5:
			b = slices.Insert(b, at, someBytes(r, r.IntN(4))...)
		}
	}
	return b
}

func someArea(r *rand.Rand) []byte {
	if r.IntN(10) == 0 {
		return someBytes(r, r.IntN(100))
	}
	gen := []uint64{0, 1, 1, 2, 2, 3, 4, 5, api.MaxGen - 1, api.MaxGen, api.MaxGen + 1}[r.IntN(11)]
	var records []string
	for range r.IntN(4) {
		records = append(records, string(someBytes(r, r.IntN(6))))
	}
	return spoil(r, lay(gen, string(someBytes(r, r.IntN(9))), records...))
}

// TestAnyBytes: areas that hold anything at all, held against the other reader.
func TestAnyBytes(t *testing.T) {
	r := dice(9)
	told := map[api.Errno]int{}
	for range 30000 {
		areas := [2][]byte{someArea(r), someArea(r)}
		var gens [2]uint64
		var whole [2]int
		var text [2]string
		var list [2][]string
		for a := range areas {
			gens[a], text[a], list[a], whole[a] = readArea(areas[a], a)
		}
		d := holding(t, areas[0], areas[1])
		l, got, err := Open(d)
		want := api.OK
		a := 0
		if gens[1] > gens[0] {
			a = 1
		}
		if gens[a] == 0 {
			want = api.ErrNoLog
		} else if gens[1-a] != 0 && gens[a]-gens[1-a] != 1 {
			want = api.ErrGen
		}
		told[want]++
		if want != api.OK {
			refusal(t, "Open", err, want)
			nothing(t, "Open", l, got)
			sees(t, "Open", d, 0, areas[0], nil)
			sees(t, "Open", d, 1, areas[1], nil)
			continue
		}
		done(t, err)
		replays(t, "Open", got, gens[a], len(areas[0])+len(areas[1])-whole[a], text[a], list[a]...)
		stands(t, "Open", l, api.LogStat{Gen: gens[a], Area: a, Records: len(list[a]), Bytes: whole[a]})
		sees(t, "Open", d, a, lay(gens[a], text[a], list[a]...), nil)
		sees(t, "Open", d, 1-a, nil, nil)
		if t.Failed() {
			t.Fatalf("areas % X and % X", areas[0], areas[1])
		}
	}
	for _, code := range []api.Errno{api.OK, api.ErrNoLog, api.ErrGen} {
		if told[code] < 500 {
			t.Errorf("%v was told %d times only", code, told[code])
		}
	}
}

// TestBigGarbage: an area as large as one may be, of any kind of bytes, is read to its end, and no further.
func TestBigGarbage(t *testing.T) {
	for _, fill := range []byte{0, 0xA5, 0xFF} {
		b := bytes.Repeat([]byte{fill}, api.MaxArea)
		_, _, err := Open(holding(t, b, b))
		refusal(t, "Open", err, api.ErrNoLog)
		copy(b, lay(1, "s", "a"))
		_, r, err := Open(holding(t, b, b))
		done(t, err)
		replays(t, "Open", r, 1, 2*api.MaxArea-len(lay(1, "s", "a")), "s", "a")
	}
	small := bytes.Repeat(layRecord("a"), (api.MaxArea-30)/14)
	l, r, err := Open(holding(t, nil, append(lay(1, ""), small...)))
	if err != nil || len(r.Records) != len(small)/14 || l.Stat().Records != len(r.Records) {
		t.Errorf("%d records, %v", len(r.Records), err)
	}
	if !errors.Is(l.Append(make([]byte, 14)), api.ErrFull) {
		t.Error("a full area took a record")
	}
}
