package wal

import (
	"errors"

	"courier/api"
	"courier/disk"
)

// step is a write of the disk that is not done before it is played.
type step func() error

// play does the steps up to the first that the disk refuses.
func play(steps []step) error {
	for _, s := range steps {
		if err := s(); err != nil {
			return refused(err)
		}
	}
	return nil
}

func cut(d *disk.Disk, area, n int) step {
	return func() error { return d.Cut(area, n) }
}

func sync(d *disk.Disk, area int) step {
	return func() error { return d.Sync(area) }
}

// put lays a record in one write, so that no fuse comes between its bytes.
func put(d *disk.Disk, area int, content []byte) step {
	return func() error { return d.Append(area, record(nil, content)) }
}

// begin lays a generation's head and snapshot, in one write too.
func begin(d *disk.Disk, gen uint64, snapshot []byte) step {
	return func() error { return d.Append(areaOf(gen), record(head(gen), snapshot)) }
}

// mend is what Open has to write: it leaves of both areas just the log, and that safe.
func mend(d *disk.Disk, now, other found) []step {
	var steps []step
	area := areaOf(now.gen)
	if other.size > 0 {
		steps = append(steps, cut(d, 1-area, 0))
	}
	if now.whole < now.size {
		steps = append(steps, cut(d, area, now.whole))
	}
	if now.synced < now.whole {
		steps = append(steps, sync(d, area))
	}
	return steps
}

// follow is what Compact has to write. The elder generation goes last: up to then a crash must find it, with every record.
func (l *Log) follow(next api.LogStat, snapshot []byte) []step {
	var steps []step
	if l.stat.Waiting > 0 {
		steps = append(steps, sync(l.disk, l.stat.Area))
	}
	return append(steps,
		cut(l.disk, next.Area, 0),
		begin(l.disk, next.Gen, snapshot),
		sync(l.disk, next.Area),
		cut(l.disk, l.stat.Area, 0),
	)
}

// ready refuses a log that Open did not make, and then a dead one: each call's first two reasons.
func (l *Log) ready() error {
	if l == nil || l.disk == nil {
		return fault(api.ErrZero)
	}
	if l.dead {
		return fault(api.ErrDead)
	}
	return nil
}

// do plays a log's steps. Behind one that was refused nobody knows what the disk will show, so the log is dead.
func (l *Log) do(steps []step) error {
	err := play(steps)
	l.dead = err != nil
	return err
}

func fault(code api.Errno) error {
	return &api.Fault{Layer: "wal", Code: code}
}

func refused(under error) error {
	return &api.Fault{Layer: "wal", Code: api.ErrDisk, Under: under}
}

// unread is what a disk's refusal to be read means: nobody made the disk, or it is dead.
func unread(err error) error {
	var f *api.Fault
	if errors.As(err, &f) && f.Code == api.ErrZero {
		return fault(api.ErrZero)
	}
	return refused(err)
}
