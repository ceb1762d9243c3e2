package wal

import (
	"bytes"

	"courier/api"
	"courier/disk"
)

// found is what Open reads in an area. Its lists are pieces of what was read, not yet fit to be handed out.
type found struct {
	gen      uint64 // 0: the area holds none
	snapshot []byte
	records  [][]byte
	size     int // bytes of the area
	synced   int // those of them that are safe
	whole    int // those ahead of the torn ones
}

// scan reads both areas.
func scan(d *disk.Disk) ([2]found, error) {
	var both [2]found
	for area := range both {
		f, err := scanArea(d, area)
		if err != nil {
			return [2]found{}, unread(err)
		}
		both[area] = f
	}
	return both, nil
}

func scanArea(d *disk.Disk, area int) (found, error) {
	size, err := d.Len(area)
	if err != nil {
		return found{}, err
	}
	synced, err := d.Synced(area)
	if err != nil {
		return found{}, err
	}
	b, err := d.Read(area, 0, size)
	if err != nil {
		return found{}, err
	}
	f := parse(b, area)
	f.size, f.synced = size, synced
	return f, nil
}

// parse reads an area's bytes from the left, up to the first that are torn.
func parse(b []byte, area int) found {
	gen, ok := headOf(b)
	if !ok || areaOf(gen) != area {
		return found{}
	}
	snapshot, ok := recordOf(b[headSize:], 0, api.MaxSnapshot)
	if !ok {
		return found{}
	}
	f := found{gen: gen, snapshot: snapshot, whole: headSize + around + len(snapshot)}
	for {
		content, ok := recordOf(b[f.whole:], 1, api.MaxRecord)
		if !ok {
			return f
		}
		f.records = append(f.records, content)
		f.whole += around + len(content)
	}
}

// choose tells which of the areas is the log's, and which the other one.
func choose(both [2]found) (now, other found, err error) {
	now, other = both[0], both[1]
	if now.gen < other.gen {
		now, other = other, now
	}
	if now.gen == 0 {
		return found{}, found{}, fault(api.ErrNoLog)
	}
	if other.gen != 0 && other.gen+1 != now.gen {
		return found{}, found{}, fault(api.ErrGen)
	}
	return now, other, nil
}

// replay copies each list by itself, because no two of an answer may share memory.
func replay(now, other found) api.Replay {
	r := api.Replay{Gen: now.gen, Snapshot: bytes.Clone(now.snapshot), Torn: other.size + now.size - now.whole}
	for _, content := range now.records {
		r.Records = append(r.Records, bytes.Clone(content))
	}
	return r
}
