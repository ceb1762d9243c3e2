package ledger

import (
	"encoding/binary"
	"hash/crc32"
	"math"
	"slices"
	"strconv"
	"testing"

	"courier/api"
	"courier/disk"
	"courier/wal"
)

// P1605, P1606

// lay gives an area's bytes by chapter 3: a generation's head, its snapshot, its records.
func lay(gen uint64, snapshot []byte, records ...[]byte) []byte {
	sum := func(b []byte) []byte { return binary.BigEndian.AppendUint32(nil, crc32.ChecksumIEEE(b)) }
	b := binary.BigEndian.AppendUint64([]byte("HWL1"), gen)
	b = slices.Concat(b, sum(b), []byte{0xA5})
	for _, c := range slices.Concat([][]byte{snapshot}, records) {
		n := uint32(len(c))
		b = binary.BigEndian.AppendUint32(b, n)
		b = binary.BigEndian.AppendUint32(b, ^n)
		b = slices.Concat(b, sum(c), c, []byte{0xA5})
	}
	return b
}

// diskOf gives a disk with this log.
func diskOf(t *testing.T, gen uint64, snapshot []byte, records ...[]byte) *disk.Disk {
	t.Helper()
	var areas [2][]byte
	areas[gen%2] = lay(gen, snapshot, records...)
	d, err := disk.From(areas)
	done(t, err)
	return d
}

// seen is all that can be seen of a disk.
func seen(d *disk.Disk) string {
	text := ""
	for area, image := range d.Image() {
		n, _ := d.Len(area)
		p, _ := d.Read(area, 0, n)
		text += string(image) + "|" + string(p) + "|" + strconv.Itoa(n) + "|"
	}
	return text + strconv.FormatBool(d.Alive())
}

func bytesOfAll(list []api.Record) [][]byte {
	var all [][]byte
	for _, r := range list {
		all = append(all, bytesOf(r))
	}
	return all
}

// story gives records that may follow the beginning, one behind the other, under these terms.
func story(terms api.Terms) []api.Record {
	number := 0
	if terms.Takes {
		number = 1
	}
	list := []api.Record{
		{Kind: api.RecOut, Control: "a", Text: []byte("m"), Cond: always},
		{Kind: api.RecOut, Control: "b", Text: []byte("n")},
		{Kind: api.RecCommit, Control: "a"},
		{Kind: api.RecIn, Control: "x", Text: []byte("m"), Number: number, Tick: 3, Commit: []byte("c")},
		{Kind: api.RecVerdict, Control: "x", Code: "AA", Answer: []byte("y")},
		{Kind: api.RecFinal, Control: "a", State: api.WantAnswered, Code: "AR"},
		{Kind: api.RecOut, Control: "a", Text: []byte("again")},
	}
	if terms.Sends {
		list = append(list, api.Record{Kind: api.RecNext, Number: 9}, api.Record{Kind: api.RecNumber, Control: "b", Number: 9})
	}
	if terms.Takes {
		list = append(list, api.Record{Kind: api.RecOpen, Control: "r"}, api.Record{Kind: api.RecIn, Control: "z", Text: []byte("m"), Number: 70, Tick: 3})
	}
	return append(list, api.Record{Kind: api.RecFinal, Control: "b", State: api.WantFailed})
}

// stages gives the tables behind each beginning of the records, as the model makes them.
func stages(t *testing.T, terms api.Terms, x api.Tables, list []api.Record) []api.Tables {
	t.Helper()
	all := []api.Tables{x}
	for i, r := range list {
		y, may := makes(terms, x, r)
		if flawOf(r) != 0 || !may {
			t.Fatalf("record %d of the test may not follow", i)
		}
		all, x = append(all, y), y
	}
	return all
}

func begun(terms api.Terms) api.Tables {
	var x api.Tables
	if terms.Sends {
		x.Next = 1
	}
	if terms.Takes {
		x.Expects = 1
	}
	return x
}

func TestP1605FormatWritesTheBeginning(t *testing.T) {
	for _, terms := range allTerms(3) {
		for _, d := range []*disk.Disk{disk.New(), diskOf(t, 1, []byte("old"), []byte("r")), diskOf(t, 6, []byte("older"))} {
			l, err := Format(d, terms)
			done(t, err)
			if image := d.Image(); len(image[0]) != 0 || string(image[1]) != string(lay(1, snapshotOf(begun(terms)))) {
				t.Fatalf("areas: % X", image)
			}
			if d.Counts() != (api.Writes{Appends: 1, Syncs: 1, Cuts: 2}) {
				t.Fatalf("writes: %+v", d.Counts())
			}
			if want := (api.LogStat{Gen: 1, Area: 1, Bytes: len(d.Image()[1])}); l.Stat() != want || !isSame(l.Tables(), begun(terms)) {
				t.Fatalf("%+v, %+v", l.Stat(), l.Tables())
			}
		}
	}
}

// dead gives a disk that is dead, with nothing on it.
func dead(t *testing.T) *disk.Disk {
	t.Helper()
	d := disk.New()
	d.Fuse(0)
	if d.Cut(0, 0) == nil || d.Alive() {
		t.Fatal("it is alive")
	}
	return d
}

func TestP1605FormatIsRefused(t *testing.T) {
	for _, terms := range allTerms(1) {
		l, err := Format(dead(t), terms)
		passed(t, "a dead disk", err, api.ErrDisk, api.ErrDead)
		if l != nil {
			t.Fatal("a Ledger beside an error")
		}
		for fuse := range 6 {
			d := disk.New()
			d.Fuse(fuse)
			l, err := Format(d, terms)
			if fuse < 4 {
				passed(t, "a fuse", err, api.ErrDisk, api.ErrDead)
				if l != nil {
					t.Fatal("a Ledger beside an error")
				}
				continue
			}
			done(t, err)
		}
	}
}

func TestP1605OpenTellsTheTablesBehindAllRecords(t *testing.T) {
	for _, terms := range allTerms(2) {
		list := story(terms)
		all := stages(t, terms, begun(terms), list)
		for n := range all {
			d := diskOf(t, 7, snapshotOf(begun(terms)), bytesOfAll(list[:n])...)
			l, err := Open(d, terms)
			done(t, err)
			if want := (api.LogStat{Gen: 7, Area: 1, Records: n, Bytes: len(d.Image()[1])}); l.Stat() != want || !isSame(l.Tables(), all[n]) {
				t.Fatalf("behind %d: %+v, %+v", n, l.Stat(), l.Tables())
			}
			// And from any of them as a snapshot on.
			d = diskOf(t, 8, snapshotOf(all[n]), bytesOfAll(list[n:])...)
			l, err = Open(d, terms)
			done(t, err)
			if !isSame(l.Tables(), all[len(list)]) {
				t.Fatalf("from %d on: %+v", n, l.Tables())
			}
		}
	}
}

func TestP1605OpenIsRefusedByTheLog(t *testing.T) {
	terms := api.Terms{Keep: 1}
	none := snapshotOf(api.Tables{})
	opens := func(what string, d *disk.Disk, code, inmost api.Errno) {
		t.Helper()
		before := d.Counts()
		l, err := Open(d, terms)
		passed(t, what, err, code, inmost)
		if l != nil || d.Counts() != before {
			t.Fatalf("%s: %v, %+v", what, l, d.Counts())
		}
	}
	opens("a new disk", disk.New(), api.ErrNoLog, api.ErrNoLog)
	opens("a dead disk", dead(t), api.ErrDisk, api.ErrDead)
	d, err := disk.From([2][]byte{lay(2, none), lay(5, none)})
	done(t, err)
	opens("no neighbours", d, api.ErrGen, api.ErrGen)
	d, err = disk.From([2][]byte{lay(1, none), []byte("HWL1")})
	done(t, err)
	opens("in the wrong area", d, api.ErrNoLog, api.ErrNoLog)
	d, err = disk.From([2][]byte{nil, lay(1, none)[:30]})
	done(t, err)
	opens("a torn snapshot", d, api.ErrNoLog, api.ErrNoLog)
	// What Open must write is refused.
	d, err = disk.From([2][]byte{lay(2, none, []byte("r"))[:len(lay(2, none))+5], lay(1, none)})
	done(t, err)
	for fuse := range 2 {
		d.Fuse(fuse)
		l, err := Open(d, terms)
		passed(t, "a fuse", err, api.ErrDisk, api.ErrDead)
		if l != nil {
			t.Fatal("a Ledger beside an error")
		}
		d.Crash([2]api.Tear{})
	}
	l, err := Open(d, terms)
	if err != nil || l.Stat().Gen != 2 {
		t.Errorf("%v, %v", l, err)
	}
}

func TestP1605SnapshotsThatAreNone(t *testing.T) {
	for _, terms := range allTerms(2) {
		right := snapshotOf(full(terms))
		list := [][]byte{nil, []byte("snapshot"), right[:len(right)-1], append(slices.Clone(right), 0)}
		for _, one := range twists(terms) {
			x := full(terms)
			one.do(&x)
			list = append(list, snapshotOf(x))
		}
		for _, b := range list {
			// The records, right or wrong, are not looked at.
			for _, records := range [][][]byte{nil, {[]byte("none")}, bytesOfAll(story(terms))} {
				d := diskOf(t, 3, b, records...)
				before := seen(d)
				l, err := Open(d, terms)
				refused(t, "another's log", err, api.ErrForm, 0)
				if l != nil || seen(d) != before || d.Counts() != (api.Writes{}) {
					t.Fatal("a refused Open has done something")
				}
			}
		}
	}
}

func TestP1605RecordsThatAreNone(t *testing.T) {
	wrong := [][]byte{{0}, {9}, []byte("none"), {3, 0, 0, 0, 1}, {3, 0, 0, 0, 1, 'a', 'a'}, make([]byte, 20000)}
	for _, terms := range allTerms(2) {
		list := story(terms)
		for n := range len(list) + 1 {
			before, behind := bytesOfAll(list[:n]), bytesOfAll(list[n:])
			again := [][]byte{bytesOf(api.Record{Kind: api.RecCommit, Control: "nobody"}), bytesOf(api.Record{Kind: api.RecVerdict, Control: "nobody", Code: "AA"})}
			for _, b := range append(again, wrong...) {
				// Whatever stands behind it, the first is told.
				for _, more := range [][][]byte{nil, behind, wrong} {
					d := diskOf(t, 2, snapshotOf(begun(terms)), slices.Concat(before, [][]byte{b}, more)...)
					was := seen(d)
					l, err := Open(d, terms)
					refused(t, "a record", err, api.ErrBook, n+1)
					if l != nil || seen(d) != was {
						t.Fatal("a refused Open has done something")
					}
				}
			}
		}
	}
}

// A log is its terms': under others its snapshot is none, or one of its records may not follow.
func TestP1605OtherTerms(t *testing.T) {
	for _, terms := range allTerms(2) {
		for _, others := range allTerms(2) {
			d, l := formatted(t, terms)
			for _, r := range story(terms) {
				done(t, l.Write(r))
			}
			k, err := Open(d, others)
			if faultOf(others, begun(terms)) != 0 {
				refused(t, "other terms", err, api.ErrForm, 0)
				continue
			}
			x, at := begun(terms), 0
			for n, r := range story(terms) {
				y, may := makes(others, x, r)
				if !may {
					at = n + 1
					break
				}
				x = y
			}
			if at != 0 {
				refused(t, "other terms", err, api.ErrBook, at)
				continue
			}
			if err != nil || !isSame(k.Tables(), x) {
				t.Fatalf("%+v opened under %+v: %v", terms, others, err)
			}
		}
	}
}

func TestP1606LedgersThatNobodyMade(t *testing.T) {
	for _, l := range []*Ledger{nil, {}, new(Ledger)} {
		for _, r := range append(good(), api.Record{}, api.Record{Kind: 9}) {
			refused(t, "Write", l.Write(r), api.ErrZero, 0)
			n, err := l.Sync()
			refused(t, "Sync", err, api.ErrZero, 0)
			refused(t, "Compact", l.Compact(), api.ErrZero, 0)
			if n != 0 || !isNone(l.Tables()) || l.Stat() != (api.LogStat{}) {
				t.Fatalf("%d, %+v, %+v", n, l.Tables(), l.Stat())
			}
		}
		if l != nil && *l != (Ledger{}) {
			t.Error("a plain Ledger has changed")
		}
	}
}

func TestP1606WriteSyncCompact(t *testing.T) {
	for _, terms := range allTerms(2) {
		d, l := formatted(t, terms)
		list := story(terms)
		all := stages(t, terms, begun(terms), list)
		gen, base, since, waiting := uint64(1), all[0], [][]byte(nil), 0
		looks := func(x api.Tables) {
			t.Helper()
			area := lay(gen, snapshotOf(base), since...)
			n, _ := d.Len(int(gen % 2))
			p, err := d.Read(int(gen%2), 0, n)
			done(t, err)
			other, _ := d.Len(int(1 - gen%2))
			want := api.LogStat{Gen: gen, Area: int(gen % 2), Records: len(since), Waiting: waiting, Bytes: len(area)}
			if string(p) != string(area) || other != 0 || l.Stat() != want || !isSame(l.Tables(), x) {
				t.Fatalf("% X, want % X; %+v, want %+v", p, area, l.Stat(), want)
			}
		}
		looks(all[0])
		for i, r := range list {
			done(t, l.Write(r))
			since, waiting = append(since, bytesOf(r)), waiting+1
			looks(all[i+1])
			if i%3 == 1 {
				for _, want := range []int{waiting, 0} {
					n, err := l.Sync()
					if n != want || err != nil {
						t.Fatalf("Sync: %d, %v; want %d", n, err, want)
					}
					waiting = 0
					looks(all[i+1])
				}
			}
			if i%4 == 2 {
				done(t, l.Compact())
				gen, base, since, waiting = gen+1, all[i+1], nil, 0
				looks(all[i+1])
			}
		}
	}
}

// isRefused: a call is refused, and nothing has changed by it.
func isRefused(t *testing.T, d *disk.Disk, l *Ledger, call func()) {
	t.Helper()
	x, stat, was, counts := l.Tables(), l.Stat(), seen(d), d.Counts()
	call()
	if !isSame(l.Tables(), x) || l.Stat() != stat || seen(d) != was || d.Counts() != counts {
		t.Fatal("a refused call has changed something")
	}
}

func TestP1606WriteIsRefused(t *testing.T) {
	for _, terms := range allTerms(2) {
		d := diskOf(t, 4, snapshotOf(full(terms)))
		l, err := Open(d, terms)
		done(t, err)
		followed := 0
		for _, r := range good() {
			for _, c := range changes(r) {
				if at := flawOf(c); at != 0 {
					isRefused(t, d, l, func() { refused(t, "Write", l.Write(c), api.ErrBook, at) })
				} else if _, may := makes(terms, full(terms), c); !may {
					isRefused(t, d, l, func() { refused(t, "Write", l.Write(c), api.ErrBook, 0) })
				} else {
					followed++
				}
			}
		}
		if followed == 0 || d.Counts() != (api.Writes{}) {
			t.Error("nothing was left to be taken, or something was written")
		}
	}
}

func TestP1606WriteIntoAFullArea(t *testing.T) {
	for _, terms := range allTerms(1) {
		d, l := formatted(t, terms)
		text := make([]byte, longest)
		put, end := api.Record{Kind: 1, Control: "a", Text: text}, api.Record{Kind: 4, Control: "a", State: api.WantFailed}
		room := func() int { return 1<<24 - l.Stat().Bytes }
		for room() >= len(bytesOf(put))+len(bytesOf(end))+26 {
			done(t, l.Write(put), l.Write(end))
		}
		// What is left is filled to the last byte.
		if n := room() - 13 - len(bytesOf(put)) + longest; n >= 1 && n <= longest {
			put.Text = text[:n]
		} else {
			t.Fatalf("%d bytes are left", room())
		}
		longer := put
		longer.Text = text[:len(put.Text)+1]
		isRefused(t, d, l, func() { passed(t, "Write", l.Write(longer), api.ErrFull, api.ErrFull) })
		done(t, l.Write(put))
		if room() != 0 {
			t.Fatalf("%d bytes are left", room())
		}
		isRefused(t, d, l, func() { passed(t, "Write", l.Write(end), api.ErrFull, api.ErrFull) })
		// A record that may not be is told first.
		isRefused(t, d, l, func() { refused(t, "Write", l.Write(put), api.ErrBook, 0) })
		done(t, l.Compact(), l.Write(end))
		if x := l.Tables(); len(x.Out) != 0 || l.Stat().Gen != 2 {
			t.Errorf("%+v, %+v", x, l.Stat())
		}
	}
}

func TestP1606TheDiskRefuses(t *testing.T) {
	terms := api.Terms{Sends: true, Takes: true, Keep: 1}
	r, wrong := api.Record{Kind: 1, Control: "a", Text: []byte("m")}, api.Record{Kind: 3, Control: "a"}
	calls := map[string]func(l *Ledger) error{
		"Write":   func(l *Ledger) error { return l.Write(r) },
		"Compact": func(l *Ledger) error { return l.Compact() },
		"Sync": func(l *Ledger) error {
			n, err := l.Sync()
			if n != 0 {
				t.Errorf("Sync: %d beside an error", n)
			}
			return err
		},
	}
	for what, call := range calls {
		d, l := formatted(t, terms)
		done(t, l.Write(api.Record{Kind: 8, Control: "r"}))
		x := l.Tables()
		d.Fuse(0)
		passed(t, what, call(l), api.ErrDisk, api.ErrDead)
		// The log is dead from then on, also where the disk is alive again.
		for range 2 {
			for again, call := range calls {
				passed(t, again, call(l), api.ErrDead, api.ErrDead)
			}
			refused(t, "Write", l.Write(wrong), api.ErrBook, 0)
			refused(t, "Write", l.Write(api.Record{}), api.ErrBook, 1)
			if !isSame(l.Tables(), x) || l.Stat() != (api.LogStat{}) {
				t.Fatalf("%s: %+v, %+v", what, l.Tables(), l.Stat())
			}
			d.Crash([2]api.Tear{{}, {Keep: 1 << 24}})
		}
		k, err := Open(d, terms)
		if err != nil || !isSame(k.Tables(), x) {
			t.Fatalf("%s: %v", what, err)
		}
	}
}

func TestP1606GenerationsEnd(t *testing.T) {
	terms := api.Terms{Keep: 1}
	for _, gen := range []uint64{1<<62 - 1, 1 << 62} {
		d := diskOf(t, gen, snapshotOf(api.Tables{}))
		l, err := Open(d, terms)
		done(t, err, l.Write(api.Record{Kind: 1, Control: "a", Text: []byte("m")}))
		if gen < 1<<62 {
			done(t, l.Compact())
		}
		for range 2 {
			isRefused(t, d, l, func() { passed(t, "Compact", l.Compact(), api.ErrSpent, api.ErrSpent) })
		}
		done(t, l.Write(api.Record{Kind: 1, Control: "b", Text: []byte("m")}))
		if n, err := l.Sync(); err != nil || n == 0 || l.Stat().Gen != 1<<62 {
			t.Errorf("%d, %v, %+v", n, err, l.Stat())
		}
	}
}

// An Open of a disk that has not crashed finds what was not synced too, and makes it safe.
func TestP1606OpenWithoutACrash(t *testing.T) {
	for _, terms := range allTerms(1) {
		d, l := formatted(t, terms)
		for _, r := range story(terms) {
			done(t, l.Write(r))
			k, err := Open(d, terms)
			if err != nil || !isSame(k.Tables(), l.Tables()) || k.Stat().Waiting != 0 {
				t.Fatalf("%v", err)
			}
			d.Crash([2]api.Tear{})
			m, err := Open(d, terms)
			if err != nil || !isSame(m.Tables(), l.Tables()) {
				t.Fatalf("%v", err)
			}
		}
	}
}

// Whatever a disk holds, and whatever the terms are, Open ends with a Ledger or an error.
func TestP1612AnyLog(t *testing.T) {
	for _, keep := range []int{math.MinInt, 0, 1, 64, 65} {
		for _, terms := range allTerms(keep) {
			for _, b := range [][]byte{nil, {0}, snapshotOf(api.Tables{}), make([]byte, 100)} {
				d := disk.New()
				done(t, wal.Format(d, b))
				for range 3 {
					if l, err := Open(d, terms); (l == nil) != (err != nil) {
						t.Fatalf("%v, %v", l, err)
					}
				}
			}
		}
	}
}
