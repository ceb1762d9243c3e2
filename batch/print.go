package batch

import (
	"strings"

	"courier/api"
	"courier/tree"
)

// isFile tells whether a file has the parts of one, whatever stands in them.
func isFile(f api.File) bool {
	if len(f.Head) == 0 && len(f.Batches) > 1 {
		return false
	}
	return isPair(f.Head, f.Tail, fileHead, fileTail) && len(f.Batches) > 0
}

// isPair tells whether there are a head and a tail with these names, or neither.
func isPair(head, tail []api.Seg, headName, tailName string) bool {
	if len(head) == 0 && len(tail) == 0 {
		return true
	}
	return len(head) == 1 && len(tail) == 1 && head[0].Name == headName && tail[0].Name == tailName
}

// writer is what was seen of a file so far.
type writer struct {
	common
	headed bool // the file has a head
	count  int  // of messages
}

// batch gives a batch's texts, or the number of what is wrong with it.
func (w *writer) batch(b api.Batch) ([]string, api.Errno) {
	if !isPair(b.Head, b.Tail, batchHead, batchTail) || w.headed && len(b.Head) == 0 || len(b.Messages) == 0 {
		return nil, api.ErrFile
	}
	agree := true
	for _, text := range b.Messages {
		marks, ok := carried(text)
		if !ok {
			return nil, api.ErrFile
		}
		agree = w.agrees(marks) && agree
	}
	w.count += len(b.Messages)
	switch {
	case w.count > api.MaxInFile:
		return nil, api.ErrMany
	case !agree:
		return nil, api.ErrMark
	}
	return w.enclosed(b.Head, b.Messages, b.Tail, len(b.Messages))
}

// enclosed puts a head and a tail round what they hold, if they are there.
func (w *writer) enclosed(head []api.Seg, inside []string, tail []api.Seg, count int) ([]string, api.Errno) {
	if len(head) == 0 {
		return inside, api.OK
	}
	first, ok := w.head(head[0])
	last, ok2 := w.tail(tail[0])
	switch {
	case !ok || !ok2:
		return nil, api.ErrForm
	case !counts(tail[0], count):
		return nil, api.ErrCount
	}
	return together([]string{first}, inside, []string{last}), api.OK
}

// head writes a head as the MSH that it is but for its name; false: it could not be read.
func (w *writer) head(s api.Seg) (string, bool) {
	text, err := tree.Print(api.Message{Marks: w.marks, Segs: []api.Seg{{Name: message, Fields: s.Fields}}})
	if err != nil {
		return "", false
	}
	return s.Name + string(text[nameSize:]), true
}

// tail writes a trailer behind the MSH behind which it would be read; false: it could not be.
func (w *writer) tail(s api.Seg) (string, bool) {
	text, err := tree.Print(api.Message{Marks: w.marks, Segs: []api.Seg{{Name: message}, s}})
	_, behind, _ := strings.Cut(string(text), "\r")
	return behind, err == nil
}

// carried tells the marks of a message that a file can carry: a one form, in which no segment stands that would end it.
func carried(text string) (api.Marks, bool) {
	m, form, err := formed(text)
	if err != nil || form != text {
		return api.Marks{}, false
	}
	for _, s := range m.Segs[1:] {
		if kindOf(s.Name) != inner {
			return api.Marks{}, false
		}
	}
	return m.Marks, true
}
