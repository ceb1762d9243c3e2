package world

import (
	"errors"
	"strconv"

	"courier/api"
)

const layer = "world"

func fault(at int, code api.Errno) error {
	return &api.Fault{Layer: layer, At: at, Code: code}
}

// faultOver has the number of a fault of another layer, and that under it.
func faultOver(at int, err error) error {
	return &api.Fault{Layer: layer, At: at, Code: codeOf(err), Under: err}
}

// codeOf is the number of an error's outermost fault, and placeOf its place.
func codeOf(err error) api.Errno { return outermost(err).Code }

func placeOf(err error) int { return outermost(err).At }

func outermost(err error) api.Fault {
	var f *api.Fault
	if errors.As(err, &f) {
		return *f
	}
	return api.Fault{}
}

// refused is a report's only line where there was no run.
func refused(err error) string {
	words := []string{"refused", strconv.Itoa(placeOf(err))}
	var f *api.Fault
	for errors.As(err, &f) {
		words = append(words, f.Layer, strconv.Itoa(int(f.Code)))
		err = f.Under
	}
	return line(words...)
}
