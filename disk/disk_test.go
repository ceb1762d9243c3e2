package disk

import (
	"bytes"
	"errors"
	"math"
	"testing"

	"courier/api"
)

// refused holds an error against the one fault that it must be.
func refused(t *testing.T, what string, err error, code api.Errno, at int) {
	t.Helper()
	var f *api.Fault
	if !errors.As(err, &f) || *f != (api.Fault{Layer: "disk", At: at, Code: code}) || !errors.Is(err, code) {
		t.Errorf("%s: %v, want disk: %d: %v", what, err, at, code)
	}
}

func done(t *testing.T, errs ...error) {
	t.Helper()
	for i, err := range errs {
		if err != nil {
			t.Fatalf("write %d: %v", i, err)
		}
	}
}

// sees holds all that can be seen of an area against its synced bytes and its tail. The disk must be alive.
func sees(t *testing.T, what string, d *Disk, area int, synced, tail string) {
	t.Helper()
	n, err := d.Len(area)
	if n != len(synced)+len(tail) || err != nil {
		t.Errorf("%s: Len(%d) %d, %v, want %d", what, area, n, err, len(synced)+len(tail))
	}
	m, err := d.Synced(area)
	if m != len(synced) || err != nil {
		t.Errorf("%s: Synced(%d) %d, %v, want %d", what, area, m, err, len(synced))
	}
	p, err := d.Read(area, 0, n)
	if string(p) != synced+tail || err != nil {
		t.Errorf("%s: Read(%d) %q, %v, want %q", what, area, p, err, synced+tail)
	}
	if image := d.Image(); string(image[area]) != synced {
		t.Errorf("%s: Image(%d) %q, want %q", what, area, image[area], synced)
	}
}

// tailed gives a disk with a tail in each area.
func tailed(t *testing.T) *Disk {
	t.Helper()
	d := New()
	done(t, d.Append(0, []byte("abc")), d.Sync(0), d.Append(0, []byte("defg")))
	done(t, d.Append(1, []byte("PQ")), d.Sync(1), d.Append(1, []byte("RST")))
	return d
}

// killed gives the same disk, dead; the write that found the fuse burnt is not counted.
func killed(t *testing.T) *Disk {
	t.Helper()
	d := tailed(t)
	d.Fuse(0)
	refused(t, "killed", d.Sync(0), api.ErrDead, 0)
	return d
}

func TestNew(t *testing.T) {
	d := New()
	sees(t, "New", d, 0, "", "")
	sees(t, "New", d, 1, "", "")
	if !d.Alive() || d.Counts() != (api.Writes{}) {
		t.Errorf("New: alive %v, counts %v", d.Alive(), d.Counts())
	}
	for range 100 { // without a fuse
		done(t, d.Append(0, nil), d.Sync(1), d.Cut(0, 0))
	}
	if d.Counts() != (api.Writes{Appends: 100, Syncs: 100, Cuts: 100}) {
		t.Errorf("Counts: %v", d.Counts())
	}
}

func TestFrom(t *testing.T) {
	d, err := From([2][]byte{[]byte("one"), []byte("second")})
	done(t, err)
	sees(t, "From", d, 0, "one", "")
	sees(t, "From", d, 1, "second", "")
	if !d.Alive() || d.Counts() != (api.Writes{}) {
		t.Errorf("From: alive %v, counts %v", d.Alive(), d.Counts())
	}
	for range 10 {
		done(t, d.Append(0, nil))
	}
	d, err = From([2][]byte{nil, {}})
	done(t, err)
	sees(t, "From of nothing", d, 0, "", "")
	sees(t, "From of nothing", d, 1, "", "")
}

func TestFromTooLong(t *testing.T) {
	long := make([]byte, api.MaxArea+1)
	full := long[:api.MaxArea]
	for _, c := range []struct {
		areas [2][]byte
		at    int
	}{{[2][]byte{full, long}, 1}, {[2][]byte{long, full}, 0}, {[2][]byte{long, long}, 0}, {[2][]byte{nil, long}, 1}} {
		d, err := From(c.areas)
		refused(t, "P201: From", err, api.ErrLong, c.at)
		if d != nil {
			t.Errorf("P201: a disk beside an error")
		}
	}
	d, err := From([2][]byte{full, full})
	done(t, err)
	for area := range 2 {
		if n, _ := d.Len(area); n != api.MaxArea {
			t.Errorf("P201: Len(%d) %d of a full area", area, n)
		}
	}
}

func TestAppend(t *testing.T) {
	d := New()
	done(t, d.Append(0, []byte("ab")))
	sees(t, "P202", d, 0, "", "ab")
	done(t, d.Append(0, []byte("c")), d.Append(1, []byte("X")), d.Append(0, nil), d.Append(0, []byte{}))
	sees(t, "P202", d, 0, "", "abc")
	sees(t, "P202", d, 1, "", "X")
	if d.Counts() != (api.Writes{Appends: 5}) {
		t.Errorf("P202: an empty Append is a write: %v", d.Counts())
	}
	done(t, d.Sync(0), d.Append(0, []byte("d")))
	sees(t, "P202", d, 0, "abc", "d")
	sees(t, "P202", d, 1, "", "X")
}

func TestAppendFull(t *testing.T) {
	all := make([]byte, api.MaxArea+1)
	d := New()
	refused(t, "P202: more than an area", d.Append(1, all), api.ErrFull, 0)
	done(t, d.Append(1, all[:api.MaxArea-1]))
	refused(t, "P202: two bytes into one", d.Append(1, all[:2]), api.ErrFull, 0)
	done(t, d.Append(1, []byte{7}))
	refused(t, "P202: one byte into none", d.Append(1, all[:1]), api.ErrFull, 0)
	done(t, d.Append(1, nil), d.Append(0, all[:api.MaxArea]))
	if n, _ := d.Len(1); n != api.MaxArea || d.Counts() != (api.Writes{Appends: 4}) {
		t.Errorf("P202: Len %d, counts %v", n, d.Counts())
	}
	p, err := d.Read(1, api.MaxArea-2, 2)
	if string(p) != "\x00\x07" || err != nil {
		t.Errorf("P202: the last bytes of a full area: %q, %v", p, err)
	}
	done(t, d.Cut(1, api.MaxArea-1), d.Append(1, []byte{8}))
	refused(t, "P202: full again", d.Append(1, all[:1]), api.ErrFull, 0)
}

func TestSync(t *testing.T) {
	d := tailed(t)
	done(t, d.Sync(0))
	sees(t, "P203", d, 0, "abcdefg", "")
	sees(t, "P203: the other area", d, 1, "PQ", "RST")
	done(t, d.Sync(0))
	sees(t, "P203: without a tail", d, 0, "abcdefg", "")
	if d.Counts() != (api.Writes{Appends: 4, Syncs: 4}) {
		t.Errorf("P203: counts %v", d.Counts())
	}
}

func TestCut(t *testing.T) {
	const all = "abcdefg"
	for n := range len(all) + 1 {
		d := tailed(t)
		done(t, d.Cut(0, n))
		synced := min(n, 3)
		sees(t, "P204", d, 0, all[:synced], all[synced:n])
		sees(t, "P204: the other area", d, 1, "PQ", "RST")
		if d.Counts() != (api.Writes{Appends: 4, Syncs: 2, Cuts: 1}) {
			t.Errorf("P204: counts %v", d.Counts())
		}
		d.Crash([2]api.Tear{{Keep: 9, Zeros: 9}})
		sees(t, "P204: what was cut off comes back", d, 0, all[:n], "")
		done(t, d.Append(0, []byte("xyz")))
		sees(t, "P204: behind a cut", d, 0, all[:n], "xyz")
	}
}

func TestCutRange(t *testing.T) {
	d := tailed(t)
	for _, n := range []int{-1, 8, math.MinInt, math.MaxInt} {
		refused(t, "P204: Cut outside", d.Cut(0, n), api.ErrRange, 0)
	}
	refused(t, "P204: Cut outside", d.Cut(1, 6), api.ErrRange, 0)
	refused(t, "P204: Cut of nothing", New().Cut(0, 1), api.ErrRange, 0)
	sees(t, "P204: refused", d, 0, "abc", "defg")
	if d.Counts().Cuts != 0 {
		t.Errorf("P204: a refused Cut is counted")
	}
}

func TestRead(t *testing.T) {
	const all = "abcdefg"
	for _, d := range []*Disk{tailed(t), killed(t)} {
		for at := -2; at <= len(all)+2; at++ {
			for n := -2; n <= len(all)+2; n++ {
				p, err := d.Read(0, at, n)
				switch {
				case at < 0 || n < 0 || at+n > len(all):
					refused(t, "P205: Read outside", err, api.ErrRange, 0)
				case !d.Alive():
					refused(t, "P205: Read of a dead disk", err, api.ErrDead, 0)
				case string(p) != all[at:at+n] || err != nil:
					t.Errorf("P205: Read(0, %d, %d): %q, %v", at, n, p, err)
				}
				if err != nil && p != nil {
					t.Errorf("P205: Read(0, %d, %d): %q beside an error", at, n, p)
				}
			}
		}
		for _, c := range [][2]int{{math.MaxInt, math.MaxInt}, {1, math.MaxInt}, {math.MaxInt, 1}, {math.MinInt, 1}, {0, math.MinInt}, {math.MinInt, math.MinInt}} {
			_, err := d.Read(0, c[0], c[1])
			refused(t, "P205: Read far outside", err, api.ErrRange, 0)
		}
		if d.Counts() != (api.Writes{Appends: 4, Syncs: 2}) {
			t.Errorf("P205: a Read is counted")
		}
	}
}

func TestReadIsNoWrite(t *testing.T) {
	d := tailed(t)
	d.Fuse(1)
	for range 3 {
		sees(t, "P205", d, 0, "abc", "defg")
	}
	done(t, d.Sync(0))
	sees(t, "P205: a burnt fuse is not yet a dead disk", d, 0, "abcdefg", "")
	if !d.Alive() {
		t.Errorf("P206: the disk dies of the write that is refused, not of the last one done")
	}
}

func TestWrongArea(t *testing.T) {
	for _, d := range []*Disk{New(), tailed(t), killed(t)} {
		counts, alive := d.Counts(), d.Alive()
		for _, area := range []int{-1, 2, math.MinInt, math.MaxInt} {
			refused(t, "Append", d.Append(area, []byte("x")), api.ErrRange, 0)
			refused(t, "Append", d.Append(area, make([]byte, api.MaxArea+1)), api.ErrRange, 0)
			refused(t, "Sync", d.Sync(area), api.ErrRange, 0)
			refused(t, "Cut", d.Cut(area, 0), api.ErrRange, 0)
			p, err := d.Read(area, 0, 0)
			refused(t, "Read", err, api.ErrRange, 0)
			n, err := d.Len(area)
			refused(t, "Len", err, api.ErrRange, 0)
			m, err := d.Synced(area)
			refused(t, "Synced", err, api.ErrRange, 0)
			if p != nil || n != 0 || m != 0 {
				t.Errorf("results beside an error: %q, %d, %d", p, n, m)
			}
		}
		if d.Counts() != counts || d.Alive() != alive {
			t.Errorf("a refused call changed the disk")
		}
	}
}

// TestFuse: with a fuse of n the first n writes are done, of whichever kind, and no other.
func TestFuse(t *testing.T) {
	writes := []func(d *Disk) error{
		func(d *Disk) error { return d.Append(0, []byte("h")) },
		func(d *Disk) error { return d.Sync(1) },
		func(d *Disk) error { return d.Cut(0, 0) },
		func(d *Disk) error { return d.Append(1, nil) },
		func(d *Disk) error { return d.Sync(0) },
		func(d *Disk) error { return d.Cut(1, 1) },
	}
	for first := range writes {
		for n := range 8 {
			d := tailed(t)
			before := d.Counts()
			d.Fuse(n)
			for i := range 12 {
				err := writes[(first+i)%len(writes)](d)
				if i < n {
					done(t, err)
				} else {
					refused(t, "P206: behind the fuse", err, api.ErrDead, 0)
				}
				if d.Alive() != (i < n) {
					t.Errorf("P206: fuse %d, write %d: alive %v", n, i, d.Alive())
				}
			}
			after := d.Counts()
			if after.Appends+after.Syncs+after.Cuts != before.Appends+before.Syncs+before.Cuts+n {
				t.Errorf("P206: fuse %d: counts from %v to %v", n, before, after)
			}
		}
	}
}

func TestFuseSetAgain(t *testing.T) {
	d := New()
	d.Fuse(0)
	d.Fuse(2) // a longer one
	done(t, d.Append(0, nil), d.Append(0, nil))
	d.Fuse(1)
	done(t, d.Append(0, nil))
	for _, n := range []int{-1, -7, math.MinInt} {
		d.Fuse(0)
		d.Fuse(n)
		done(t, d.Append(0, nil), d.Sync(0), d.Cut(0, 0))
		if !d.Alive() {
			t.Errorf("P206: Fuse(%d) takes the fuse off", n)
		}
	}
	d.Fuse(5)
	d.Fuse(0) // a shorter one
	refused(t, "P206", d.Append(0, nil), api.ErrDead, 0)
	for _, n := range []int{5, -1, 0} { // of a dead disk: nothing
		d.Fuse(n)
		refused(t, "P206", d.Append(0, nil), api.ErrDead, 0)
	}
	d.Crash([2]api.Tear{})
	for range 10 { // the crash left none of the fuses
		done(t, d.Append(0, nil))
	}
	d.Fuse(math.MaxInt)
	done(t, d.Append(0, nil))
}

// TestRefusedTellsNothing: what is refused for another reason neither burns the fuse nor shows it.
func TestRefusedTellsNothing(t *testing.T) {
	full, err := From([2][]byte{make([]byte, api.MaxArea)})
	done(t, err)
	full.Fuse(1)
	for range 3 {
		refused(t, "P206", full.Append(0, []byte{1}), api.ErrFull, 0)
		refused(t, "P206", full.Append(2, nil), api.ErrRange, 0)
		refused(t, "P206", full.Sync(-1), api.ErrRange, 0)
		refused(t, "P206", full.Cut(1, 1), api.ErrRange, 0)
		refused(t, "P206", full.Cut(0, -1), api.ErrRange, 0)
	}
	done(t, full.Append(0, nil))
	refused(t, "P206", full.Append(0, []byte{1}), api.ErrFull, 0)
	refused(t, "P206", full.Cut(1, 1), api.ErrRange, 0)
	if !full.Alive() || full.Counts() != (api.Writes{Appends: 1}) {
		t.Errorf("P206: alive %v, counts %v", full.Alive(), full.Counts())
	}
	refused(t, "P206", full.Append(0, nil), api.ErrDead, 0)
	refused(t, "P206: full ahead of dead", full.Append(0, []byte{1}), api.ErrFull, 0)
	refused(t, "P206: range ahead of dead", full.Cut(1, 1), api.ErrRange, 0)
}

func TestDead(t *testing.T) {
	d := killed(t)
	refused(t, "P206", d.Append(0, []byte("x")), api.ErrDead, 0)
	refused(t, "P206", d.Append(0, nil), api.ErrDead, 0)
	refused(t, "P206", d.Sync(0), api.ErrDead, 0)
	refused(t, "P206", d.Cut(0, 1), api.ErrDead, 0)
	n, err := d.Len(0)
	m, err2 := d.Synced(0)
	if n != 7 || m != 3 || err != nil || err2 != nil {
		t.Errorf("P205: Len %d, %v, Synced %d, %v of a dead disk", n, err, m, err2)
	}
	if image := d.Image(); string(image[0]) != "abc" || string(image[1]) != "PQ" {
		t.Errorf("P208: Image of a dead disk: %q", image)
	}
	if d.Alive() || d.Counts() != (api.Writes{Appends: 4, Syncs: 2}) {
		t.Errorf("P206: alive %v, counts %v", d.Alive(), d.Counts())
	}
	d.Crash([2]api.Tear{{Keep: 4}, {Keep: 3}})
	sees(t, "P207: nothing had changed", d, 0, "abcdefg", "")
	sees(t, "P207: nothing had changed", d, 1, "PQRST", "")
	if !d.Alive() || d.Counts() != (api.Writes{Appends: 4, Syncs: 2}) {
		t.Errorf("P207: alive %v, counts %v", d.Alive(), d.Counts())
	}
}

// torn works out byte by byte what a crash leaves of a tail.
func torn(tail string, tear api.Tear) string {
	left := ""
	for i := range len(tail) {
		if i >= tear.Keep {
			break
		}
		left += tail[i : i+1]
	}
	for zeros := 0; zeros < tear.Zeros && len(left) < len(tail); zeros++ {
		left += "\x00"
	}
	return left
}

func TestCrash(t *testing.T) {
	some := []int{math.MinInt, -1, 0, 1, 2, 3, 4, 5, 9, math.MaxInt}
	for _, given := range []func(*testing.T) *Disk{tailed, killed} {
		for _, keep := range some {
			for _, zeros := range some {
				one, two := api.Tear{Keep: keep, Zeros: zeros}, api.Tear{Keep: zeros, Zeros: keep}
				d := given(t)
				d.Crash([2]api.Tear{one, two})
				sees(t, "P207", d, 0, "abc"+torn("defg", one), "")
				sees(t, "P207", d, 1, "PQ"+torn("RST", two), "")
				if !d.Alive() || d.Counts() != (api.Writes{Appends: 4, Syncs: 2}) {
					t.Errorf("P207: alive %v, counts %v", d.Alive(), d.Counts())
				}
			}
		}
	}
}

func TestCrashTakesTheFuse(t *testing.T) {
	d := tailed(t)
	d.Fuse(0)
	d.Crash([2]api.Tear{})
	done(t, d.Append(0, []byte("h")), d.Append(0, nil))
	sees(t, "P207", d, 0, "abc", "h")
	d.Crash([2]api.Tear{})
	d.Crash([2]api.Tear{{Keep: 9, Zeros: 9}, {Keep: 9, Zeros: 9}})
	sees(t, "P207: without a tail", d, 0, "abc", "")
	sees(t, "P207: without a tail", d, 1, "PQ", "")
}

// TestCountsStop: no run reaches the end of a count, so the count is set.
func TestCountsStop(t *testing.T) {
	d := New()
	d.done = api.Writes{Appends: 1<<53 - 1, Syncs: 1<<53 - 1, Cuts: 1<<53 - 1}
	for range 3 {
		done(t, d.Append(0, nil), d.Sync(0), d.Cut(0, 0))
		if d.Counts() != (api.Writes{Appends: 1 << 53, Syncs: 1 << 53, Cuts: 1 << 53}) {
			t.Errorf("P206: counts %v", d.Counts())
		}
	}
}

func TestNobodysDisk(t *testing.T) {
	for _, d := range []*Disk{nil, new(Disk)} {
		d.Fuse(3)
		d.Crash([2]api.Tear{{Keep: 1}})
		for _, area := range []int{0, 1, 2, -1} {
			refused(t, "Append", d.Append(area, []byte("x")), api.ErrZero, 0)
			refused(t, "Sync", d.Sync(area), api.ErrZero, 0)
			refused(t, "Cut", d.Cut(area, -1), api.ErrZero, 0)
			p, err := d.Read(area, 1, 1)
			refused(t, "Read", err, api.ErrZero, 0)
			n, err := d.Len(area)
			refused(t, "Len", err, api.ErrZero, 0)
			m, err := d.Synced(area)
			refused(t, "Synced", err, api.ErrZero, 0)
			if p != nil || n != 0 || m != 0 {
				t.Errorf("P210: results beside an error: %q, %d, %d", p, n, m)
			}
		}
		image := d.Image()
		if d.Alive() || len(image[0])+len(image[1]) != 0 || d.Counts() != (api.Writes{}) {
			t.Errorf("P210: alive %v, image %q, counts %v", d.Alive(), image, d.Counts())
		}
		d.Fuse(-1)
		d.Crash([2]api.Tear{})
		if d.Alive() || d != nil && (d.state != unmade || d.fuse != 0) {
			t.Errorf("P210: Fuse or Crash did something")
		}
	}
}

func TestTwoDisks(t *testing.T) {
	shared := [2][]byte{[]byte("abc"), []byte("abc")}
	one, err := From(shared)
	done(t, err)
	two, err := From(shared)
	done(t, err)
	done(t, one.Append(0, []byte("x")), one.Cut(1, 1), one.Append(1, []byte("y")))
	one.Fuse(0)
	refused(t, "P210", one.Sync(0), api.ErrDead, 0)
	sees(t, "P210", two, 0, "abc", "")
	sees(t, "P210", two, 1, "abc", "")
	if !two.Alive() || two.Counts() != (api.Writes{}) {
		t.Errorf("P210: alive %v, counts %v", two.Alive(), two.Counts())
	}
}

func TestMemoryHandedIn(t *testing.T) {
	room := []byte("abcdefgh")
	d, err := From([2][]byte{room[:2], room[:3]})
	done(t, err)
	done(t, d.Append(0, room[2:4]), d.Append(1, []byte("xyz")), d.Append(0, []byte("XYZ")))
	done(t, d.Cut(1, 1), d.Append(1, []byte("--")))
	d.Crash([2]api.Tear{{Zeros: 9}, {Zeros: 9}})
	if string(room) != "abcdefgh" {
		t.Errorf("what was handed in was changed: %q", room)
	}
	e := New()
	done(t, e.Append(0, room))
	copy(room, "--------")
	sees(t, "what was handed in was kept", e, 0, "", "abcdefgh")
}

func TestMemoryHandedOut(t *testing.T) {
	d, err := From([2][]byte{[]byte("abcd"), []byte("efgh")})
	done(t, err)
	image := d.Image()
	p, err := d.Read(0, 1, 2)
	done(t, err)
	for _, out := range [][]byte{image[0], image[1], p} {
		whole := out[:cap(out)]
		for i := range whole {
			whole[i] = '-'
		}
	}
	sees(t, "an answer was written on", d, 0, "abcd", "")
	sees(t, "an answer was written on", d, 1, "efgh", "")
	image = d.Image()
	done(t, d.Cut(0, 0), d.Append(0, []byte("zzzz")), d.Sync(0))
	if string(image[0]) != "abcd" || string(image[1]) != "efgh" {
		t.Errorf("an answer changed: %q", image)
	}
	whole := image[0][:cap(image[0])]
	copy(whole, bytes.Repeat([]byte("-"), len(whole)))
	if string(image[1]) != "efgh" {
		t.Errorf("two lists of an answer share memory")
	}
}

// TestExamples: the chapter's examples that no test above holds.
func TestExamples(t *testing.T) {
	d := tailed(t)
	if p, err := d.Read(0, 2, 3); string(p) != "cde" || err != nil {
		t.Errorf("example 1: %q, %v", p, err)
	}
	done(t, d.Cut(0, 5), d.Cut(0, 2))
	d.Crash([2]api.Tear{{Keep: 2, Zeros: 1}})
	sees(t, "example 2", d, 0, "ab", "")

	d = New()
	d.Fuse(1)
	done(t, d.Append(1, []byte("x")))
	refused(t, "example 3", d.Sync(1), api.ErrDead, 0)
	d.Fuse(5)
	d.Crash([2]api.Tear{{Keep: 1}, {Keep: 1}})
	sees(t, "example 3", d, 0, "", "")
	sees(t, "example 3", d, 1, "x", "")

	d = New()
	if p, err := d.Read(0, 0, 0); len(p) != 0 || err != nil {
		t.Errorf("example 5: %q, %v", p, err)
	}
	_, err := d.Read(0, 1, 0)
	refused(t, "example 5", err, api.ErrRange, 0)
}
