package disk

import "courier/api"

// maxCount is where a count of writes stops.
const maxCount = 1 << 53

func fault(at int, code api.Errno) error {
	return &api.Fault{Layer: "disk", At: at, Code: code}
}

func (d *Disk) made() bool {
	return d != nil && d.state != unmade
}

// check refuses a disk that nobody made and then an area that is none: each call's first two reasons.
func (d *Disk) check(area int) error {
	if !d.made() {
		return fault(0, api.ErrZero)
	}
	if !d.known(area) {
		return fault(0, api.ErrRange)
	}
	return nil
}

// write pays for one write, or finds the disk dead. A call asks it last, so that what it refuses for another reason uses nothing of the fuse.
func (d *Disk) write(count *int) error {
	if d.state != alive || d.fuse == 0 {
		d.state = dead
		return fault(0, api.ErrDead)
	}
	if d.fuse > 0 {
		d.fuse--
	}
	if *count < maxCount {
		*count++
	}
	return nil
}
