package batch

import (
	"strconv"
	"strings"

	"courier/api"
	"courier/esc"
	"courier/types"
)

const (
	nowhere     = -1 // of four texts that are all right
	mostName    = 20
	mostControl = 15 // a point and a batch's number must have room behind it
)

// heading is what the heads of a file say.
type heading struct {
	marks                         api.Marks
	app, facility, stamp, control string
}

// wrong tells the number of the first text that is not right.
func (h heading) wrong() int {
	switch {
	case !isName(h.app):
		return 0
	case h.facility != "" && !isName(h.facility):
		return 1
	case !isStamp(h.stamp):
		return 2
	case !isOf(h.control, ".-", mostControl):
		return 3
	}
	return nowhere
}

func isName(text string) bool { return isOf(text, "_.-", mostName) }

// isStamp: layer 8 takes the null, two quotation marks, for every kind.
func isStamp(text string) bool {
	return text != "" && text != `""` && types.Text("TS", text) == nil
}

// isOf tells whether a text is digits, letters and signs, and not too long.
func isOf(text string, signs string, most int) bool {
	for _, c := range []byte(text) {
		if !isWord(c) && strings.IndexByte(signs, c) < 0 {
			return false
		}
	}
	return 0 < len(text) && len(text) <= most
}

func isWord(c byte) bool {
	return '0' <= c && c <= '9' || 'A' <= c && c <= 'Z' || 'a' <= c && c <= 'z'
}

// over makes the file with these heads.
func (h heading) over(batches [][]string) api.File {
	f := api.File{Head: h.head(fileHead, h.control), Tail: h.tail(fileTail, len(batches))}
	for i, messages := range batches {
		f.Batches = append(f.Batches, api.Batch{
			Head:     h.head(batchHead, h.control+"."+strconv.Itoa(i+1)),
			Messages: messages,
			Tail:     h.tail(batchTail, len(messages)),
		})
	}
	return f
}

// head has its fields from the third on.
func (h heading) head(name string, control string) []api.Seg {
	return h.segment(name, h.app, h.facility, "", "", h.stamp, "", "", "", control)
}

func (h heading) tail(name string, count int) []api.Seg {
	return h.segment(name, strconv.Itoa(count))
}

// segment has one subcomponent in each field.
func (h heading) segment(name string, texts ...string) []api.Seg {
	s := api.Seg{Name: name}
	for _, text := range texts {
		// Neither the marks nor the length of such a text can be refused.
		wire, _ := esc.Escape(h.marks, text)
		s.Fields = append(s.Fields, api.Field{Reps: []api.Rep{{Comps: []api.Comp{{Subs: []string{wire}}}}}})
	}
	return []api.Seg{s}
}
