package wal

import (
	"errors"
	"slices"
	"testing"

	"courier/api"
	"courier/disk"
)

// P307

// eachTear goes through every tear of a tail: each number of bytes that stays, with each number of zeros behind them.
func eachTear(tail int, do func(tear api.Tear)) {
	for keep := range tail + 1 {
		for zeros := range tail - keep + 1 {
			do(api.Tear{Keep: keep, Zeros: zeros})
		}
	}
}

// TestCrashInRecords: of records that wait, a crash leaves those that are whole, and what is left of the next is torn.
func TestCrashInRecords(t *testing.T) {
	waiting := []string{"\x07", "\x00\x00", "\xA5\xA5\xA5", "\x00\xA5"}
	ends := []int{0}
	for _, r := range waiting {
		ends = append(ends, ends[len(ends)-1]+around+len(r))
	}
	eachTear(ends[len(waiting)], func(tear api.Tear) {
		d, l := begun(t, "s")
		done(t, l.Append([]byte("safe")))
		_, err := l.Sync()
		done(t, err)
		for _, r := range waiting {
			done(t, l.Append([]byte(r)))
		}
		d.Crash([2]api.Tear{{}, tear})
		whole := 0
		for whole < len(waiting) && ends[whole+1] <= tear.Keep {
			whole++
		}
		want := append([]string{"safe"}, waiting[:whole]...)
		_, r, err := Open(d)
		done(t, err)
		replays(t, "Open", r, 1, tear.Keep+tear.Zeros-ends[whole], "s", want...)
		sees(t, "Open", d, 1, lay(1, "s", want...), nil)
		_, r, err = Open(d)
		done(t, err)
		replays(t, "Open again", r, 1, 0, "s", want...)
	})
}

// TestCrashInLongRecord: a record whose length has more than one byte that is not zero.
func TestCrashInLongRecord(t *testing.T) {
	rec := make([]byte, 0x1234)
	size := around + len(rec)
	for keep := range size + 1 {
		if keep > 20 && keep < size-20 && keep%97 != 0 {
			continue
		}
		for _, zeros := range []int{0, 1, 4, 8, 12, size} {
			d, l := begun(t, "")
			done(t, l.Append(rec))
			d.Crash([2]api.Tear{{}, {Keep: keep, Zeros: zeros}})
			_, r, err := Open(d)
			done(t, err)
			if whole := keep == size; (len(r.Records) == 1) != whole || !whole && r.Torn != keep+min(zeros, size-keep) {
				t.Errorf("keep %d, zeros %d: %d records, torn %d", keep, zeros, len(r.Records), r.Torn)
			}
		}
	}
}

// TestCrashInCompact: a fuse stops Compact at each of its writes, and the crash tears what is not synced in every way: the elder generation with all that it had synced, or the next one.
func TestCrashInCompact(t *testing.T) {
	young := len(lay(2, "\x00n"))
	for fuse := range 6 {
		stopped := func() *disk.Disk {
			d, l := begun(t, "s")
			done(t, l.Append([]byte("a")))
			_, err := l.Sync()
			done(t, err, l.Append([]byte("b")))
			d.Fuse(fuse)
			if err := l.Compact([]byte("\x00n")); (err == nil) != (fuse == 5) {
				t.Fatalf("fuse %d: %v", fuse, err)
			}
			return d
		}
		both := []string{"a", "b"}
		check := func(tears [2]api.Tear, gen uint64, torn int, records ...string) {
			d := stopped()
			d.Crash(tears)
			_, r, err := Open(d)
			done(t, err)
			replays(t, "Open", r, gen, torn, map[uint64]string{1: "s", 2: "\x00n"}[gen], records...)
		}
		switch fuse {
		case 0: // the record still waits
			eachTear(14, func(tear api.Tear) {
				if tear.Keep == 14 {
					check([2]api.Tear{{}, tear}, 1, 0, both...)
				} else {
					check([2]api.Tear{{}, tear}, 1, tear.Keep+tear.Zeros, "a")
				}
			})
		case 1, 2: // it is safe, and the next generation is not begun
			check([2]api.Tear{{Keep: 99}, {}}, 1, 0, both...)
		case 3: // the next generation waits
			eachTear(young, func(tear api.Tear) {
				if tear.Keep == young {
					check([2]api.Tear{tear, {}}, 2, len(lay(1, "s", both...)))
				} else {
					check([2]api.Tear{tear, {}}, 1, tear.Keep+tear.Zeros, both...)
				}
			})
		case 4: // both are safe
			check([2]api.Tear{}, 2, len(lay(1, "s", both...)))
		case 5:
			check([2]api.Tear{}, 2, 0)
		}
	}
}

// TestCrashInFormat: no log, or generation 1.
func TestCrashInFormat(t *testing.T) {
	size := len(lay(1, "s"))
	for fuse := range 5 {
		eachTear(size, func(tear api.Tear) {
			d := disk.New()
			d.Fuse(fuse)
			if err := Format(d, []byte("s")); (err == nil) != (fuse == 4) {
				t.Fatalf("fuse %d: %v", fuse, err)
			}
			d.Crash([2]api.Tear{tear, tear})
			_, r, err := Open(d)
			if fuse == 4 || fuse == 3 && tear.Keep == size {
				done(t, err)
				replays(t, "Open", r, 1, 0, "s")
			} else {
				refusal(t, "Open", err, api.ErrNoLog)
			}
		})
	}
}

// TestCrashInOpen: a fuse stops Open at each of its writes; the next Open finds what it would have found, up to what a crash tears of records that nobody synced.
func TestCrashInOpen(t *testing.T) {
	tail := slices.Concat(layRecord("b"), layRecord("c")[:9])
	for fuse := range 4 {
		eachTear(len(tail), func(tear api.Tear) {
			d := crowded(t)
			d.Fuse(fuse)
			_, _, err := Open(d)
			if (err == nil) != (fuse == 3) {
				t.Fatalf("fuse %d: %v", fuse, err)
			}
			d.Crash([2]api.Tear{tear, {}})
			_, r, err := Open(d)
			done(t, err)
			want := []string{"a"}
			if fuse == 3 || tear.Keep >= len(layRecord("b")) {
				want = append(want, "b")
			}
			replays(t, "Open", r, 2, r.Torn, "s", want...)
			sees(t, "Open", d, 0, lay(2, "s", want...), nil)
			sees(t, "Open", d, 1, nil, nil)
		})
	}
}

// TestExample is the chapter's fourth.
func TestExample(t *testing.T) {
	for _, keep := range []int{0, 1000} {
		d, l := begun(t, "")
		done(t, l.Append([]byte{7}))
		d.Fuse(3)
		err := l.Compact([]byte{9})
		diskRefusal(t, "Compact", err)
		if errors.Is(err, api.ErrDisk) {
			t.Error("errors.Is finds the number of the innermost fault, and no other")
		}
		d.Crash([2]api.Tear{{Keep: keep}, {Keep: keep}})
		_, r, err := Open(d)
		done(t, err)
		if keep == 0 {
			replays(t, "nothing kept", r, 1, 0, "", "\x07")
		} else {
			replays(t, "all kept", r, 2, 44, "\x09")
		}
	}
}
