package esc

import (
	"strings"

	"courier/api"
)

// heads are the names of the segments that tell the marks.
var heads = [...]string{"MSH", "FHS", "BHS"}

const nameSize = 3

// letters stand for the marks in escapes, in the order of the marks.
const letters = "FSRET"

// marks are the five, in the order in which a head has them: Field, Comp, Rep, Esc, Sub.
type marks string

func of(m api.Marks) marks {
	return marks([]byte{m.Field, m.Comp, m.Rep, m.Esc, m.Sub})
}

// Valid tells whether the five are marks, no two the same.
func Valid(m api.Marks) error {
	five := of(m)
	if at := five.wrong(); at < len(five) {
		return fault(at, api.ErrMark)
	}
	return nil
}

// Read tells the marks at the head of a segment MSH, FHS or BHS.
func Read(text string) (api.Marks, error) {
	if at := named(text); at < nameSize {
		return api.Marks{}, fault(at, api.ErrHead)
	}
	end := nameSize + len(letters)
	five := marks(text[nameSize:min(end, len(text))])
	if at := nameSize + five.wrong(); at < end {
		return api.Marks{}, fault(at, api.ErrHead)
	}
	if len(text) > end && text[end] != '\r' && text[end] != five[0] {
		return api.Marks{}, fault(end, api.ErrHead)
	}
	return api.Marks{Field: five[0], Comp: five[1], Rep: five[2], Esc: five[3], Sub: five[4]}, nil
}

// Head writes a segment's name and the five marks.
func Head(name string, m api.Marks) (string, error) {
	if len(name) != nameSize || named(name) != nameSize {
		return "", fault(0, api.ErrHead)
	}
	if err := Valid(m); err != nil {
		return "", err
	}
	return name + string(of(m)), nil
}

// named counts the first bytes of a text with which one of the names goes on.
func named(text string) int {
	most := 0
	for _, name := range heads {
		n := 0
		for n < nameSize && n < len(text) && text[n] == name[n] {
			n++
		}
		most = max(most, n)
	}
	return most
}

// wrong is the place of the first that is no mark or stands ahead of itself; behind the last, if there is none.
func (five marks) wrong() int {
	for i, r := range string(five) {
		if !isMark(r) || five[:i].has(r) {
			return i
		}
	}
	return len(five)
}

func (five marks) has(r rune) bool { return strings.ContainsRune(string(five), r) }

func (five marks) esc() rune { return rune(five[3]) }

// plain: a rune beyond ASCII is one of bytes that are plain each, and so is a byte that is no rune's.
func (five marks) plain(r rune) bool {
	return r >= ' ' && r != '\x7F' && !five.has(r)
}

// letter is the one that stands for a mark, mark the one that a letter stands for.
func (five marks) letter(mark byte) string {
	at := strings.IndexByte(string(five), mark)
	return letters[at : at+1]
}

func (five marks) mark(letter string) string {
	at := strings.Index(letters, letter)
	return string(five[at : at+1])
}

func isMark(r rune) bool { return r > ' ' && r < '\x7F' && !isWord(r) }

// isWord: a digit or a letter of ASCII.
func isWord(r rune) bool {
	return '0' <= r && r <= '9' || 'A' <= r && r <= 'Z' || 'a' <= r && r <= 'z'
}
