package batch

import (
	"iter"
	"slices"
	"strconv"
	"strings"

	"courier/api"
	"courier/tree"
)

// The kinds of segments, by the names that tell them; and what is no segment's, but stands ahead of the first or behind the last.
const (
	fileHead  = "FHS"
	batchHead = "BHS"
	message   = "MSH"
	batchTail = "BTS"
	fileTail  = "FTS"
	inner     = "inner"
	start     = ""
	end       = "end"
)

const nameSize = 3

// ended is a text as it is read: if it is not empty it ends with a CR.
func ended(text string) string {
	if text == "" || strings.HasSuffix(text, "\r") {
		return text
	}
	return text + "\r"
}

// segments gives the segments of a text that is ended, each with its CR, by their places.
func segments(text string) iter.Seq2[int, string] {
	return func(yield func(int, string) bool) {
		for at := 0; at < len(text); {
			next := at + strings.IndexByte(text[at:], '\r') + 1
			if !yield(at, text[at:next]) {
				return
			}
			at = next
		}
	}
}

func kindOf(segment string) string {
	name := segment[:min(nameSize, len(segment))]
	if isOneOf(name, fileHead, batchHead, message, batchTail, fileTail) {
		return name
	}
	return inner
}

func isOneOf(kind string, kinds ...string) bool { return slices.Contains(kinds, kind) }

// common are the marks of all that a file holds: those of the first that has some. No right marks are zero.
type common struct {
	marks api.Marks
}

func (c *common) agrees(marks api.Marks) bool {
	if c.marks == (api.Marks{}) {
		c.marks = marks
	}
	return c.marks == marks
}

// reader is what was read of a text so far.
type reader struct {
	common
	text  string // ended
	file  api.File
	last  string // the kind that came last, but for inner ones: where it is a message this one is still open
	begin int    // of the last message
	count int    // of messages
}

// batch is the one that is read.
func (r *reader) batch() *api.Batch { return &r.file.Batches[len(r.file.Batches)-1] }

// mayStand tells whether a kind, or the end, can follow.
func (r *reader) mayStand(kind string) bool {
	switch r.last {
	case start:
		return isOneOf(kind, fileHead, batchHead, message)
	case fileHead:
		return kind == batchHead
	case batchHead:
		return kind == message
	case message:
		if len(r.batch().Head) > 0 {
			return isOneOf(kind, inner, message, batchTail)
		}
		return isOneOf(kind, inner, message, end)
	case batchTail:
		if len(r.file.Head) > 0 {
			return isOneOf(kind, batchHead, fileTail)
		}
	}
	return kind == end
}

// isFull tells whether there are as many of a kind as may be.
func (r *reader) isFull(kind string) bool {
	return kind == batchHead && len(r.file.Batches) == api.MaxBatches || kind == message && r.count == api.MaxInFile
}

// take reads a segment that can stand where it stands. An inner one waits for the end of its message.
func (r *reader) take(kind string, at int, segment string) (err error) {
	switch kind {
	case inner:
		return nil
	case fileHead:
		r.file.Head, err = r.head(at, segment)
	case batchHead:
		var head []api.Seg
		head, err = r.head(at, segment)
		r.file.Batches = append(r.file.Batches, api.Batch{Head: head})
	case message:
		if r.last == start {
			r.file.Batches = []api.Batch{{}}
		}
		r.begin = at
		r.count++
	case batchTail:
		r.batch().Tail, err = r.tail(at, segment, len(r.batch().Messages))
	case fileTail:
		r.file.Tail, err = r.tail(at, segment, len(r.file.Batches))
	}
	r.last = kind
	return err
}

// head reads a head as the MSH that it is but for its name.
func (r *reader) head(at int, segment string) ([]api.Seg, error) {
	m, err := tree.Parse([]byte(message + segment[nameSize:]))
	if err != nil {
		return nil, refused(at, err)
	}
	if !r.agrees(m.Marks) {
		return nil, fault(at, api.ErrMark, nil)
	}
	return []api.Seg{{Name: segment[:nameSize], Fields: m.Segs[0].Fields}}, nil
}

// tail reads a trailer behind an MSH with the file's marks.
func (r *reader) tail(at int, segment string, count int) ([]api.Seg, error) {
	k := r.marks
	made := []byte{k.Field, k.Comp, k.Rep, k.Esc, k.Sub, '\r'}
	m, err := tree.Parse([]byte(message + string(made) + segment))
	if err != nil {
		return nil, refused(at, err)
	}
	if !counts(m.Segs[1], count) {
		return nil, fault(at, api.ErrCount, nil)
	}
	return []api.Seg{m.Segs[1]}, nil
}

// endMessage reads the message that is open, if there is one, up to a place.
func (r *reader) endMessage(at int) error {
	if r.last != message {
		return nil
	}
	m, form, err := formed(r.text[r.begin:at])
	if err != nil {
		return refused(r.begin, err)
	}
	if !r.agrees(m.Marks) {
		return fault(r.begin, api.ErrMark, nil)
	}
	r.batch().Messages = append(r.batch().Messages, form)
	return nil
}

// closed gives the file, if it may end here; at is the place of a fault of the end.
func (r *reader) closed(at int) (api.File, error) {
	if err := r.endMessage(len(r.text)); err != nil {
		return api.File{}, err
	}
	if !r.mayStand(end) {
		return api.File{}, fault(at, api.ErrOrder, nil)
	}
	return r.file, nil
}

// formed reads a message, and tells its one form. That of a text that is ended is never too long.
func formed(text string) (api.Message, string, error) {
	m, err := tree.Parse([]byte(text))
	if err != nil {
		return api.Message{}, "", err
	}
	form, err := tree.Print(m)
	return m, string(form), err
}

// counts tells whether a trailer counts right.
func counts(s api.Seg, count int) bool {
	normal := tree.Normal(api.Message{Segs: []api.Seg{s}}).Segs[0]
	if len(normal.Fields) == 0 || len(normal.Fields[0].Reps) == 0 {
		return true
	}
	number, ok := only(normal, 0)
	return ok && number == strconv.Itoa(count)
}

// only tells the one subcomponent of a normal segment's field, where that is all of it.
func only(s api.Seg, field int) (string, bool) {
	if field >= len(s.Fields) {
		return "", false
	}
	reps := s.Fields[field].Reps
	if len(reps) != 1 || len(reps[0].Comps) != 1 || len(reps[0].Comps[0].Subs) != 1 {
		return "", false
	}
	return reps[0].Comps[0].Subs[0], true
}
