package ledger

import (
	"errors"

	"courier/api"
	"courier/disk"
)

func fault(at int, code api.Errno) error {
	return &api.Fault{Layer: "ledger", At: at, Code: code}
}

// passedOn is a refusal of the log as this layer's. It has the number of the log's own fault; the disk's, if that one is behind it, stands further under.
func passedOn(err error) error {
	code := api.ErrDisk
	var f *api.Fault
	if errors.As(err, &f) {
		code = f.Code
	}
	return &api.Fault{Layer: "ledger", Code: code, Under: err}
}

// ready refuses a disk that nobody made and then terms that may not be: the first two reasons of Format and Open.
func ready(d *disk.Disk, t api.Terms) error {
	// A dead disk tells its length too: just one that nobody made does not.
	if _, err := d.Len(0); err != nil {
		return fault(0, api.ErrZero)
	}
	if !areRight(t) {
		return fault(0, api.ErrArg)
	}
	return nil
}
