package wal

import (
	"bytes"
	"errors"
	"slices"
	"strings"
	"testing"

	"courier/api"
	"courier/disk"
)

// refusal holds an error against the one fault of the log that it must be, with nothing under it.
func refusal(t *testing.T, what string, err error, code api.Errno) {
	t.Helper()
	var f *api.Fault
	if !errors.As(err, &f) || *f != (api.Fault{Layer: "wal", Code: code}) || !errors.Is(err, code) {
		t.Errorf("%s: %v, want wal: 0: %v", what, err, code)
	}
}

// diskRefusal: the log's fault is ErrDisk, and under it stands the disk's own.
func diskRefusal(t *testing.T, what string, err error) {
	t.Helper()
	var f, under *api.Fault
	if !errors.As(err, &f) || f.Layer != "wal" || f.At != 0 || f.Code != api.ErrDisk {
		t.Errorf("%s: %v, want wal: 0: %v", what, err, api.ErrDisk)
		return
	}
	if !errors.As(f.Under, &under) || *under != (api.Fault{Layer: "disk", Code: api.ErrDead}) || !errors.Is(err, api.ErrDead) {
		t.Errorf("%s: under it %v, want the dead disk's", what, f.Under)
	}
}

func done(t *testing.T, errs ...error) {
	t.Helper()
	for i, err := range errs {
		if err != nil {
			t.Fatalf("call %d: %v", i, err)
		}
	}
}

// begun gives a disk that Format laid, and its log.
func begun(t *testing.T, snapshot string) (*disk.Disk, *Log) {
	t.Helper()
	d := disk.New()
	done(t, Format(d, []byte(snapshot)))
	l, _, err := Open(d)
	done(t, err)
	return d, l
}

// holding gives a disk whose areas are these bytes, synced.
func holding(t *testing.T, zero, one []byte) *disk.Disk {
	t.Helper()
	d, err := disk.From([2][]byte{zero, one})
	done(t, err)
	return d
}

// dead gives the same disk, dead.
func dead(t *testing.T, d *disk.Disk) *disk.Disk {
	t.Helper()
	d.Fuse(0)
	if d.Sync(0) == nil || d.Alive() {
		t.Fatal("the disk is not dead")
	}
	return d
}

// sees holds an area's bytes, synced and not, against what they must be.
func sees(t *testing.T, what string, d *disk.Disk, area int, synced, tail []byte) {
	t.Helper()
	n, _ := d.Len(area)
	if n != len(synced)+len(tail) {
		t.Errorf("%s: area %d has %d bytes, want %d", what, area, n, len(synced)+len(tail))
	}
	if image := d.Image()[area]; !bytes.Equal(image, synced) {
		t.Errorf("%s: area %d has synced\n% X, want\n% X", what, area, image, synced)
	}
	if !d.Alive() {
		return
	}
	if b, err := d.Read(area, 0, n); err != nil || !bytes.Equal(b, slices.Concat(synced, tail)) {
		t.Errorf("%s: area %d is\n% X, want\n% X and % X", what, area, b, synced, tail)
	}
}

func counts(t *testing.T, what string, d *disk.Disk, appends, syncs, cuts int) {
	t.Helper()
	if got := d.Counts(); got != (api.Writes{Appends: appends, Syncs: syncs, Cuts: cuts}) {
		t.Errorf("%s: writes %+v, want %d, %d, %d", what, got, appends, syncs, cuts)
	}
}

func replays(t *testing.T, what string, r api.Replay, gen uint64, torn int, snapshot string, records ...string) {
	t.Helper()
	if r.Gen != gen || r.Torn != torn || string(r.Snapshot) != snapshot || !slices.Equal(texts(r.Records), records) {
		t.Errorf("%s: %d, torn %d, %q, %q; want %d, %d, %q, %q", what, r.Gen, r.Torn, r.Snapshot, r.Records, gen, torn, snapshot, records)
	}
}

func texts(records [][]byte) []string {
	var out []string
	for _, r := range records {
		out = append(out, string(r))
	}
	return out
}

// nothing: a call that refuses answers zero values beside its error.
func nothing(t *testing.T, what string, l *Log, r api.Replay) {
	t.Helper()
	if l != nil || r.Gen != 0 || r.Torn != 0 || len(r.Snapshot) != 0 || len(r.Records) != 0 {
		t.Errorf("%s: a log %v, %+v beside an error", what, l, r)
	}
}

func stands(t *testing.T, what string, l *Log, want api.LogStat) {
	t.Helper()
	if got := l.Stat(); got != want {
		t.Errorf("%s: Stat %+v, want %+v", what, got, want)
	}
}

// P301

func TestFormat(t *testing.T) {
	for _, snapshot := range []string{"", "s", strings.Repeat("long ", 1000)} {
		d := disk.New()
		done(t, Format(d, []byte(snapshot)))
		sees(t, "Format", d, 0, nil, nil)
		sees(t, "Format", d, 1, lay(1, snapshot), nil)
		counts(t, "Format", d, 1, 1, 2)
	}
	d := disk.New()
	done(t, Format(d, nil))
	if n, _ := d.Len(1); n != 30 {
		t.Errorf("Format of no bytes: %d bytes", n)
	}
}

func TestFormatOverAnything(t *testing.T) {
	d := holding(t, []byte("junk"), lay(7, "seven", "a"))
	done(t, d.Append(0, []byte("tail")), d.Append(1, []byte("tail")))
	done(t, Format(d, []byte("new")))
	sees(t, "Format", d, 0, nil, nil)
	sees(t, "Format", d, 1, lay(1, "new"), nil)
}

func TestFormatRefused(t *testing.T) {
	long := make([]byte, api.MaxSnapshot+1)
	refusal(t, "no disk", Format(nil, nil), api.ErrZero)
	refusal(t, "nobody's disk", Format(&disk.Disk{}, nil), api.ErrZero)
	refusal(t, "no disk, long", Format(nil, long), api.ErrZero)
	refusal(t, "nobody's disk, long", Format(&disk.Disk{}, long), api.ErrZero)

	d := holding(t, []byte("a"), []byte("b"))
	refusal(t, "long", Format(d, long), api.ErrLong)
	refusal(t, "long, of a dead disk", Format(dead(t, holding(t, nil, nil)), long), api.ErrLong)
	counts(t, "long", d, 0, 0, 0)
	sees(t, "long", d, 0, []byte("a"), nil)
	sees(t, "long", d, 1, []byte("b"), nil)
	diskRefusal(t, "dead", Format(dead(t, d), nil))

	done(t, Format(disk.New(), long[:api.MaxSnapshot]))
}

// TestFormatFuse: the fuse shows the writes, one behind the other.
func TestFormatFuse(t *testing.T) {
	want := []struct {
		zero, one, tail []byte
		writes          [3]int
	}{
		{[]byte("a"), []byte("b"), nil, [3]int{}},
		{nil, []byte("b"), nil, [3]int{0, 0, 1}},
		{nil, nil, nil, [3]int{0, 0, 2}},
		{nil, nil, lay(1, "s"), [3]int{1, 0, 2}},
	}
	for fuse, w := range want {
		d := holding(t, []byte("a"), []byte("b"))
		d.Fuse(fuse)
		diskRefusal(t, "Format", Format(d, []byte("s")))
		sees(t, "Format", d, 0, w.zero, nil)
		sees(t, "Format", d, 1, w.one, w.tail)
		counts(t, "Format", d, w.writes[0], w.writes[1], w.writes[2])
	}
	d := holding(t, []byte("a"), []byte("b"))
	d.Fuse(4)
	done(t, Format(d, nil))
}

// P302

func TestOpen(t *testing.T) {
	for _, x := range []struct {
		what      string
		zero, one []byte
		want      api.LogStat
		torn      int
		snapshot  string
		records   []string
		cuts      int
	}{
		{"bare", nil, lay(1, ""), api.LogStat{Gen: 1, Area: 1, Bytes: 30}, 0, "", nil, 0},
		{"snapshot", nil, lay(3, "three"), api.LogStat{Gen: 3, Area: 1, Bytes: 35}, 0, "three", nil, 0},
		{"records", lay(2, "s", "a", "bc"), nil, api.LogStat{Gen: 2, Records: 2, Bytes: 60}, 0, "s", []string{"a", "bc"}, 0},
		{"torn", lay(2, "s", "a", "bc")[:59], nil, api.LogStat{Gen: 2, Records: 1, Bytes: 45}, 14, "s", []string{"a"}, 1},
		{"junk beside", lay(2, "s"), []byte("junk"), api.LogStat{Gen: 2, Bytes: 31}, 4, "s", nil, 1},
		{"the elder beside", lay(2, "s"), lay(1, "r", "a"), api.LogStat{Gen: 2, Bytes: 31}, 45, "s", nil, 1},
		{"the younger beside", lay(2, "s"), lay(3, "r", "a"), api.LogStat{Gen: 3, Area: 1, Records: 1, Bytes: 45}, 31, "r", []string{"a"}, 1},
		{"a torn younger one", lay(2, "s"), lay(3, "r")[:30], api.LogStat{Gen: 2, Bytes: 31}, 30, "s", nil, 1},
		{"both", append(lay(2, "s"), 1), append(lay(3, "r"), 1, 2), api.LogStat{Gen: 3, Area: 1, Bytes: 31}, 34, "r", nil, 2},
		{"strangers are no neighbours", lay(2, "s"), lay(8, "r"), api.LogStat{Gen: 2, Bytes: 31}, 31, "s", nil, 1},
		{"the greatest", lay(api.MaxGen, ""), lay(api.MaxGen-1, ""), api.LogStat{Gen: api.MaxGen, Bytes: 30}, 30, "", nil, 1},
		{"beyond the greatest", lay(api.MaxGen, ""), lay(api.MaxGen+1, ""), api.LogStat{Gen: api.MaxGen, Bytes: 30}, 30, "", nil, 1},
	} {
		d := holding(t, x.zero, x.one)
		l, r, err := Open(d)
		done(t, err)
		stands(t, x.what, l, x.want)
		replays(t, x.what, r, x.want.Gen, x.torn, x.snapshot, x.records...)
		counts(t, x.what, d, 0, 0, x.cuts)
		sees(t, x.what, d, x.want.Area, lay(x.want.Gen, x.snapshot, x.records...), nil)
		sees(t, x.what, d, 1-x.want.Area, nil, nil)
	}
}

func TestOpenRefused(t *testing.T) {
	for _, x := range []struct {
		what string
		d    *disk.Disk
		code api.Errno
	}{
		{"no disk", nil, api.ErrZero},
		{"nobody's", &disk.Disk{}, api.ErrZero},
		{"new", disk.New(), api.ErrNoLog},
		{"junk", holding(t, []byte("junk"), []byte("more")), api.ErrNoLog},
		{"generation 0", holding(t, lay(0, ""), nil), api.ErrNoLog},
		{"generation above all", holding(t, nil, lay(api.MaxGen+1, "")), api.ErrNoLog},
		{"the wrong areas", holding(t, lay(1, ""), lay(2, "")), api.ErrNoLog},
		{"a head alone", holding(t, layHead(2), layHead(1)), api.ErrNoLog},
		{"a snapshot without its last byte", holding(t, nil, lay(1, "")[:29]), api.ErrNoLog},
		{"2 and 5", holding(t, lay(2, ""), lay(5, "")), api.ErrGen},
		{"5 and 2", holding(t, lay(4, ""), lay(1, "")), api.ErrGen},
		{"the ends", holding(t, lay(api.MaxGen, ""), lay(1, "")), api.ErrGen},
	} {
		before, writes := x.d.Image(), x.d.Counts()
		l, r, err := Open(x.d)
		refusal(t, x.what, err, x.code)
		nothing(t, x.what, l, r)
		if after := x.d.Image(); !bytes.Equal(after[0], before[0]) || !bytes.Equal(after[1], before[1]) || x.d.Counts() != writes {
			t.Errorf("%s: something was written", x.what)
		}
	}
	for _, d := range []*disk.Disk{disk.New(), holding(t, lay(2, ""), lay(5, "")), holding(t, lay(2, ""), nil)} {
		l, r, err := Open(dead(t, d))
		diskRefusal(t, "dead", err)
		nothing(t, "dead", l, r)
		counts(t, "dead", d, 0, 0, 0)
	}
}

// TestOpenNeighbours: a generation beside each of those around it.
func TestOpenNeighbours(t *testing.T) {
	for gen := uint64(1); gen <= 15; gen += 2 {
		d := holding(t, lay(8, "eight"), lay(gen, "odd"))
		_, r, err := Open(d)
		switch gen {
		case 7:
			done(t, err)
			replays(t, "7 and 8", r, 8, 33, "eight")
		case 9:
			done(t, err)
			replays(t, "9 and 8", r, 9, 35, "odd")
		default:
			refusal(t, "no neighbours", err, api.ErrGen)
		}
	}
}

// crowded gives a disk on which Open has all three writes to do.
func crowded(t *testing.T) *disk.Disk {
	t.Helper()
	d := holding(t, lay(2, "s", "a"), lay(1, "r"))
	done(t, d.Append(0, layRecord("b")), d.Append(0, layRecord("c")[:9]))
	return d
}

func TestOpenFuse(t *testing.T) {
	safe, tail := lay(2, "s", "a"), slices.Concat(layRecord("b"), layRecord("c")[:9])
	want := []struct {
		tail, one []byte
		cuts      int
	}{
		{tail, lay(1, "r"), 0},
		{tail, nil, 1},
		{layRecord("b"), nil, 2},
	}
	for fuse, w := range want {
		d := crowded(t)
		d.Fuse(fuse)
		l, r, err := Open(d)
		diskRefusal(t, "Open", err)
		nothing(t, "Open", l, r)
		sees(t, "Open", d, 0, safe, w.tail)
		sees(t, "Open", d, 1, w.one, nil)
		counts(t, "Open", d, 2, 0, w.cuts)
	}
	d := crowded(t)
	d.Fuse(3)
	l, r, err := Open(d)
	done(t, err)
	stands(t, "Open", l, api.LogStat{Gen: 2, Records: 2, Bytes: 59})
	replays(t, "Open", r, 2, 40, "s", "a", "b")
	sees(t, "Open", d, 0, lay(2, "s", "a", "b"), nil)
	sees(t, "Open", d, 1, nil, nil)
	counts(t, "Open", d, 2, 1, 2)
}

// TestOpenTails: each of the three writes is done only where it is needed.
func TestOpenTails(t *testing.T) {
	for _, x := range []struct {
		what        string
		tail        []byte
		syncs, cuts int
		records     []string
	}{
		{"no tail", nil, 0, 0, nil},
		{"a whole one", layRecord("a"), 1, 0, []string{"a"}},
		{"a torn one", layRecord("a")[:13], 0, 1, nil},
		{"both", append(layRecord("a"), 0), 1, 1, []string{"a"}},
	} {
		d := holding(t, nil, lay(1, ""))
		if x.tail != nil {
			done(t, d.Append(1, x.tail))
		}
		writes := d.Counts()
		_, r, err := Open(d)
		done(t, err)
		replays(t, x.what, r, 1, len(x.tail)-len(lay(1, "", x.records...))+30, "", x.records...)
		counts(t, x.what, d, writes.Appends, x.syncs, x.cuts)
		sees(t, x.what, d, 1, lay(1, "", x.records...), nil)
	}
}

// TestOpenWithoutWrites: a fuse that is burnt is not seen where nothing is to be written.
func TestOpenWithoutWrites(t *testing.T) {
	d := holding(t, nil, lay(1, "s", "a"))
	d.Fuse(0)
	l, r, err := Open(d)
	done(t, err)
	replays(t, "Open", r, 1, 0, "s", "a")
	if !d.Alive() {
		t.Error("Open killed the disk")
	}
	diskRefusal(t, "Append", l.Append([]byte("b")))
}

// TestOpenMiddle: what is not whole ends the records, though whole ones stand behind it.
func TestOpenMiddle(t *testing.T) {
	b := lay(1, "s", "a", "b", "c")
	b[len(lay(1, "s", "a"))+12]++ // the content of b
	_, r, err := Open(holding(t, nil, b))
	done(t, err)
	replays(t, "a spoilt record", r, 1, 28, "s", "a")
}

// TestOpenSizes: records and snapshots at and around their bounds.
func TestOpenSizes(t *testing.T) {
	most, more := strings.Repeat("r", api.MaxRecord), strings.Repeat("r", api.MaxRecord+1)
	for _, x := range []struct {
		what    string
		b       []byte
		torn    int
		records []string
	}{
		{"an empty one", lay(1, "", "a", "", "b"), 27, []string{"a"}},
		{"the longest", lay(1, "", "a", most, "b"), 0, []string{"a", most, "b"}},
		{"one more", lay(1, "", "a", more, "b"), len(more) + 27, []string{"a"}},
	} {
		_, r, err := Open(holding(t, nil, x.b))
		done(t, err)
		replays(t, x.what, r, 1, x.torn, "", x.records...)
	}
	long := strings.Repeat("s", api.MaxSnapshot+1)
	_, r, err := Open(holding(t, nil, lay(1, long[1:], "a")))
	done(t, err)
	replays(t, "the longest snapshot", r, 1, 0, long[1:], "a")
	_, _, err = Open(holding(t, nil, lay(1, long, "a")))
	refusal(t, "a longer snapshot", err, api.ErrNoLog)
}

// P303

func TestAppend(t *testing.T) {
	d, l := begun(t, "")
	done(t, l.Append([]byte{7}))
	stands(t, "one", l, api.LogStat{Gen: 1, Area: 1, Records: 1, Waiting: 1, Bytes: 44})
	sees(t, "one", d, 1, lay(1, ""), layRecord("\x07"))
	counts(t, "one", d, 2, 1, 2)
	done(t, l.Append([]byte("two")))
	stands(t, "two", l, api.LogStat{Gen: 1, Area: 1, Records: 2, Waiting: 2, Bytes: 60})
	sees(t, "two", d, 1, lay(1, ""), slices.Concat(layRecord("\x07"), layRecord("two")))
	counts(t, "two", d, 3, 1, 2)
	sees(t, "two", d, 0, nil, nil)
}

func TestAppendBounds(t *testing.T) {
	for _, n := range []int{0, api.MaxRecord + 1, api.MaxRecord + 2, 1 << 20} {
		d, l := begun(t, "s")
		before := l.Stat()
		refusal(t, "Append", l.Append(make([]byte, n)), api.ErrRecord)
		stands(t, "Append", l, before)
		sees(t, "Append", d, 1, lay(1, "s"), nil)
		counts(t, "Append", d, 1, 1, 2)
		done(t, l.Append([]byte("a"))) // it lives
	}
	for _, n := range []int{1, 2, api.MaxRecord - 1, api.MaxRecord} {
		d, l := begun(t, "s")
		rec := strings.Repeat("x", n)
		done(t, l.Append([]byte(rec)))
		sees(t, "Append", d, 1, lay(1, "s"), layRecord(rec))
		stands(t, "Append", l, api.LogStat{Gen: 1, Area: 1, Records: 1, Waiting: 1, Bytes: 44 + n})
	}
}

// nearlyFull gives a log in whose area just so many bytes are free.
func nearlyFull(t *testing.T, free int) (*disk.Disk, *Log) {
	t.Helper()
	big := strings.Repeat("f", api.MaxRecord)
	b := lay(1, "")
	for api.MaxArea-len(b)-free >= 3*(api.MaxRecord+around) {
		b = append(b, layRecord(big)...)
	}
	rest := (api.MaxArea - len(b) - free) / 4
	for range 3 {
		b = append(b, layRecord(big[:rest-around])...)
	}
	b = append(b, layRecord(big[:api.MaxArea-len(b)-free-around])...)
	d := holding(t, nil, b)
	l, r, err := Open(d)
	done(t, err)
	if r.Torn != 0 || l.Stat().Bytes != api.MaxArea-free {
		t.Fatalf("%d bytes, torn %d", l.Stat().Bytes, r.Torn)
	}
	return d, l
}

func TestAppendFull(t *testing.T) {
	d, l := nearlyFull(t, 100)
	before := l.Stat()
	refusal(t, "one too many", l.Append(make([]byte, 88)), api.ErrFull)
	refusal(t, "the longest", l.Append(make([]byte, api.MaxRecord)), api.ErrFull)
	refusal(t, "too long ahead of too full", l.Append(make([]byte, api.MaxRecord+1)), api.ErrRecord)
	refusal(t, "no byte ahead of too full", l.Append(nil), api.ErrRecord)
	stands(t, "full", l, before)
	counts(t, "full", d, 0, 0, 0)
	done(t, l.Append(make([]byte, 86)), l.disk.Sync(1))
	refusal(t, "one byte free", l.Append([]byte{1}), api.ErrFull)

	d, l = nearlyFull(t, 100)
	done(t, l.Append(make([]byte, 87)))
	if n, _ := d.Len(1); n != api.MaxArea || l.Stat().Bytes != n {
		t.Errorf("%d bytes", n)
	}
	refusal(t, "none free", l.Append([]byte{1}), api.ErrFull)
	if n, err := l.Sync(); n != 1 || err != nil {
		t.Errorf("Sync of a full area: %d, %v", n, err)
	}
	done(t, l.Compact([]byte("s")))
	stands(t, "Compact", l, api.LogStat{Gen: 2, Bytes: 31})

	d, l = nearlyFull(t, 13)
	d.Fuse(0)
	refusal(t, "full ahead of the disk", l.Append([]byte{1}), api.ErrFull)
	if !d.Alive() {
		t.Error("a write was asked for")
	}
}

func TestAppendDisk(t *testing.T) {
	d, l := begun(t, "s")
	done(t, l.Append([]byte("a")))
	d.Fuse(0)
	refusal(t, "no byte ahead of the disk", l.Append(nil), api.ErrRecord)
	diskRefusal(t, "Append", l.Append([]byte("b")))
	isDead(t, "Append", l)
	sees(t, "Append", d, 1, lay(1, "s"), layRecord("a"))
	d.Crash([2]api.Tear{})
	isDead(t, "behind the crash", l)
	counts(t, "Append", d, 2, 1, 2)
}

// isDead: every call of a dead log says so, ahead of any other reason but ErrZero.
func isDead(t *testing.T, what string, l *Log) {
	t.Helper()
	refusal(t, what+", Append", l.Append([]byte("a")), api.ErrDead)
	refusal(t, what+", Append of nothing", l.Append(nil), api.ErrDead)
	n, err := l.Sync()
	refusal(t, what+", Sync", err, api.ErrDead)
	if n != 0 {
		t.Errorf("%s: Sync tells %d", what, n)
	}
	refusal(t, what+", Compact", l.Compact(nil), api.ErrDead)
	refusal(t, what+", Compact of too much", l.Compact(make([]byte, api.MaxSnapshot+1)), api.ErrDead)
	stands(t, what, l, api.LogStat{})
}

// TestUnmade: a log that is nil, or that Open did not make.
func TestUnmade(t *testing.T) {
	for _, l := range []*Log{nil, {}, new(Log)} {
		refusal(t, "Append", l.Append([]byte("a")), api.ErrZero)
		refusal(t, "Append of nothing", l.Append(nil), api.ErrZero)
		n, err := l.Sync()
		refusal(t, "Sync", err, api.ErrZero)
		if n != 0 {
			t.Errorf("Sync tells %d", n)
		}
		refusal(t, "Compact", l.Compact(nil), api.ErrZero)
		refusal(t, "Compact of too much", l.Compact(make([]byte, api.MaxSnapshot+1)), api.ErrZero)
		stands(t, "Stat", l, api.LogStat{})
	}
}

// P304

func TestSync(t *testing.T) {
	d, l := begun(t, "s")
	for _, waiting := range []int{0, 1, 3, 0} {
		before := d.Counts()
		records := l.Stat().Records
		for range waiting {
			done(t, l.Append([]byte("a")))
		}
		if n, err := l.Sync(); n != waiting || err != nil {
			t.Errorf("Sync: %d, %v, want %d", n, err, waiting)
		}
		stands(t, "Sync", l, api.LogStat{Gen: 1, Area: 1, Records: records + waiting, Bytes: 31 + 14*(records+waiting)})
		counts(t, "Sync", d, before.Appends+waiting, before.Syncs+1, before.Cuts)
		sees(t, "Sync", d, 1, lay(1, "s", slices.Repeat([]string{"a"}, records+waiting)...), nil)
	}
}

func TestSyncDisk(t *testing.T) {
	for _, records := range []int{0, 2} {
		d, l := begun(t, "s")
		for range records {
			done(t, l.Append([]byte("a")))
		}
		d.Fuse(0)
		n, err := l.Sync()
		diskRefusal(t, "Sync", err)
		if n != 0 {
			t.Errorf("Sync tells %d beside an error", n)
		}
		isDead(t, "Sync", l)
		sees(t, "Sync", d, 1, lay(1, "s"), bytes.Repeat(layRecord("a"), records))
	}
}

// P305

func TestCompact(t *testing.T) {
	for _, x := range []struct {
		what    string
		synced  []string
		waiting []string
		syncs   int
	}{
		{"no record", nil, nil, 1},
		{"synced ones", []string{"a", "b"}, nil, 1},
		{"waiting ones", nil, []string{"a", "b"}, 2},
		{"both", []string{"a"}, []string{"b"}, 2},
	} {
		d, l := begun(t, "s")
		for _, r := range x.synced {
			done(t, l.Append([]byte(r)))
		}
		_, err := l.Sync()
		done(t, err)
		for _, r := range x.waiting {
			done(t, l.Append([]byte(r)))
		}
		before := d.Counts()
		done(t, l.Compact([]byte("next")))
		stands(t, x.what, l, api.LogStat{Gen: 2, Area: 0, Bytes: 34})
		counts(t, x.what, d, before.Appends+1, before.Syncs+x.syncs, before.Cuts+2)
		sees(t, x.what, d, 0, lay(2, "next"), nil)
		sees(t, x.what, d, 1, nil, nil)
		done(t, l.Append([]byte("c")))
		stands(t, x.what, l, api.LogStat{Gen: 2, Area: 0, Records: 1, Waiting: 1, Bytes: 48})
		sees(t, x.what, d, 0, lay(2, "next"), layRecord("c"))
	}
}

func TestCompactOften(t *testing.T) {
	d, l := begun(t, "")
	for gen := uint64(2); gen < 9; gen++ {
		done(t, l.Append([]byte("a")), l.Compact([]byte{byte(gen)}))
		stands(t, "Compact", l, api.LogStat{Gen: gen, Area: int(gen % 2), Bytes: 31})
		sees(t, "Compact", d, int(gen%2), lay(gen, string([]byte{byte(gen)})), nil)
		sees(t, "Compact", d, int(1-gen%2), nil, nil)
	}
	_, r, err := Open(d)
	done(t, err)
	replays(t, "Open", r, 8, 0, "\x08")
}

// TestCompactOver: the other area is cut, whatever somebody left there.
func TestCompactOver(t *testing.T) {
	d, l := begun(t, "")
	done(t, d.Append(0, []byte("junk")), l.Compact([]byte("n")))
	sees(t, "Compact", d, 0, lay(2, "n"), nil)
}

func TestCompactRefused(t *testing.T) {
	d, l := begun(t, "s")
	done(t, l.Append([]byte("a")))
	before := l.Stat()
	refusal(t, "long", l.Compact(make([]byte, api.MaxSnapshot+1)), api.ErrLong)
	stands(t, "long", l, before)
	counts(t, "long", d, 2, 1, 2)
	sees(t, "long", d, 1, lay(1, "s"), layRecord("a"))
	done(t, l.Compact(make([]byte, api.MaxSnapshot)))
	stands(t, "the longest", l, api.LogStat{Gen: 2, Bytes: 30 + api.MaxSnapshot})

	d = holding(t, lay(api.MaxGen, "s"), nil)
	l, _, err := Open(d)
	done(t, err)
	done(t, l.Append([]byte("a")))
	before = l.Stat()
	d.Fuse(0)
	refusal(t, "long ahead of spent", l.Compact(make([]byte, api.MaxSnapshot+1)), api.ErrLong)
	refusal(t, "spent", l.Compact(nil), api.ErrSpent)
	d.Fuse(-1)
	stands(t, "spent", l, before)
	counts(t, "spent", d, 1, 0, 0)
	sees(t, "spent", d, 0, lay(api.MaxGen, "s"), layRecord("a"))
	if n, err := l.Sync(); n != 1 || err != nil {
		t.Errorf("Sync of the last generation: %d, %v", n, err)
	}

	l, _, err = Open(holding(t, nil, lay(api.MaxGen-1, "s")))
	done(t, err)
	done(t, l.Compact(nil))
	stands(t, "the last", l, api.LogStat{Gen: api.MaxGen, Bytes: 30})
	refusal(t, "spent", l.Compact(nil), api.ErrSpent)
}

// TestCompactFuse: the fuse shows the writes, one behind the other; each refused one is the log's end.
func TestCompactFuse(t *testing.T) {
	type state struct{ zero, zeroTail, one, oneTail []byte }
	elder, young := lay(1, "s", "a"), lay(2, "next")
	want := []state{
		{[]byte("junk"), nil, lay(1, "s"), layRecord("a")},
		{[]byte("junk"), nil, elder, nil},
		{nil, nil, elder, nil},
		{nil, young, elder, nil},
		{young, nil, elder, nil},
		{young, nil, nil, nil},
	}
	for waiting := range 2 { // without a record that waits, the first write is left out
		for fuse, w := range want[1-waiting:] {
			d, l := begun(t, "s")
			done(t, l.Append([]byte("a")))
			if waiting == 0 {
				_, err := l.Sync()
				done(t, err)
			}
			done(t, d.Append(0, []byte("junk")), d.Sync(0))
			d.Fuse(fuse)
			err := l.Compact([]byte("next"))
			if fuse == 4+waiting {
				done(t, err)
				stands(t, "Compact", l, api.LogStat{Gen: 2, Bytes: 34})
			} else {
				diskRefusal(t, "Compact", err)
				isDead(t, "Compact", l)
			}
			sees(t, "Compact", d, 0, w.zero, w.zeroTail)
			sees(t, "Compact", d, 1, w.one, w.oneTail)
		}
	}
}

// P306: Stat stands in the tests of the other calls; here is what it must not show.

func TestStatIsAsked(t *testing.T) {
	d, l := begun(t, "s")
	done(t, l.Append([]byte("a")))
	want := api.LogStat{Gen: 1, Area: 1, Records: 1, Waiting: 1, Bytes: 45}
	writes := d.Counts()
	for range 3 {
		stands(t, "Stat", l, want)
	}
	if d.Counts() != writes {
		t.Error("Stat wrote")
	}
	d.Fuse(0) // the log is dead when it is refused, not when the disk could refuse it
	stands(t, "Stat", l, want)
	diskRefusal(t, "Sync", func() error { _, err := l.Sync(); return err }())
	stands(t, "Stat", l, api.LogStat{})
}

// P308

// TestElder: an elder log panics at nothing, and the younger one is right.
func TestElder(t *testing.T) {
	d, elder := begun(t, "s")
	done(t, elder.Append([]byte("a")))
	young, r, err := Open(d)
	done(t, err)
	replays(t, "the younger", r, 1, 0, "s", "a")
	sees(t, "the younger", d, 1, lay(1, "s", "a"), nil)
	done(t, young.Append([]byte("b")), young.Compact([]byte("t")))
	useAll(elder)

	d, elder = begun(t, "s")
	done(t, d.Append(1, make([]byte, api.MaxArea-31)))
	useAll(elder)
	d, elder = begun(t, "s")
	done(t, elder.Append([]byte("a")), Format(d, nil))
	useAll(elder)
	d, elder = begun(t, "s")
	*d = disk.Disk{}
	useAll(elder)
	d, elder = begun(t, "s")
	done(t, d.Cut(1, 0))
	d.Crash([2]api.Tear{})
	useAll(elder)
}

func useAll(l *Log) {
	for range 3 {
		l.Append([]byte("x"))
		l.Stat()
		l.Sync()
		l.Compact([]byte("y"))
	}
}

// TestTwoLogs: logs of two disks know nothing of one another.
func TestTwoLogs(t *testing.T) {
	d, l := begun(t, "d")
	e, m := begun(t, "e")
	done(t, l.Append([]byte("a")), m.Append([]byte("b")), m.Compact([]byte("f")))
	e.Fuse(0)
	diskRefusal(t, "Append", m.Append([]byte("c")))
	done(t, l.Append([]byte("g")))
	stands(t, "the other", l, api.LogStat{Gen: 1, Area: 1, Records: 2, Waiting: 2, Bytes: 59})
	sees(t, "the other", d, 1, lay(1, "d"), slices.Concat(layRecord("a"), layRecord("g")))
}

// P309

// TestHandedIn: what is handed in is not changed, nor the room around it, and not kept.
func TestHandedIn(t *testing.T) {
	d := disk.New()
	var l *Log
	for _, x := range []struct {
		what string
		call func(p []byte) error
		area int
		want []byte
	}{
		{"Format", func(p []byte) error { return Format(d, p) }, 1, lay(1, "234")},
		{"Append", func(p []byte) error { l, _, _ = Open(d); return l.Append(p) }, 1, lay(1, "234", "234")},
		{"Compact", func(p []byte) error { return l.Compact(p) }, 0, lay(2, "234")},
	} {
		room := []byte("0123456789")
		done(t, x.call(room[2:5]))
		if string(room) != "0123456789" {
			t.Errorf("%s changed what it was given: %q", x.what, room)
		}
		clear(room)
		b, err := d.Read(x.area, 0, len(x.want))
		if err != nil || !bytes.Equal(b, x.want) {
			t.Errorf("%s kept what it was given: % X, %v", x.what, b, err)
		}
	}
}

// TestHandedOut: an answer is new memory; a list that is written over, room behind it included, is seen nowhere else.
func TestHandedOut(t *testing.T) {
	d := holding(t, nil, lay(1, "snap", "a", "bc", "d"))
	l, r, err := Open(d)
	done(t, err)
	lists := append([][]byte{r.Snapshot}, r.Records...)
	for i, list := range lists {
		full := list[:cap(list)]
		for j := range full {
			full[j] = byte(200 + i)
		}
	}
	for i, list := range lists {
		for _, c := range list[:cap(list)] {
			if c != byte(200+i) {
				t.Errorf("list %d shares memory: % X", i, list[:cap(list)])
			}
		}
	}
	records := r.Records[:cap(r.Records)]
	clear(records)
	sees(t, "Open", d, 1, lay(1, "snap", "a", "bc", "d"), nil)
	done(t, l.Append([]byte("e")))
	_, r, err = Open(d)
	done(t, err)
	replays(t, "Open again", r, 1, 0, "snap", "a", "bc", "d", "e")
}

// TestEmptyIsNil: nil and no bytes mean the same.
func TestEmptyIsNil(t *testing.T) {
	for _, p := range [][]byte{nil, {}, make([]byte, 0, 9)} {
		d := disk.New()
		done(t, Format(d, p))
		sees(t, "Format", d, 1, lay(1, ""), nil)
		l, r, err := Open(d)
		done(t, err)
		replays(t, "Open", r, 1, 0, "")
		refusal(t, "Append", l.Append(p), api.ErrRecord)
		done(t, l.Compact(p))
		sees(t, "Compact", d, 0, lay(2, ""), nil)
	}
}
