package setup

import "courier/api"

const maxWord = 64 // bytes, or bytes and pairs

// word is a word by its text, whichever way it is written.
type word struct {
	text   string
	quoted bool // it is of the second kind
}

// splitter takes a line, rune by rune. A rune beyond ASCII stands for bytes that may stand in a comment alone, and so does a byte that is no rune's.
type splitter struct {
	words []word
	next  func(c rune) // takes the next one
}

// split tells a line's words. It gives up where the line is not words and perhaps a comment.
func split(line string) []word {
	s := &splitter{}
	s.next = s.apart
	for _, c := range line {
		s.next(c)
	}
	s.next('\n')
	return s.words
}

// isEnd tells whether a word ends ahead of a rune: a blank, the mark of a comment, the line's end.
func isEnd(c rune) bool { return c == ' ' || c == '\t' || c == '#' || c == '\n' }

// apart stands where a word may begin.
func (s *splitter) apart(c rune) {
	switch {
	case c == '#':
		s.next = s.comment
	case isEnd(c):
		s.next = s.apart
	case c == '"':
		s.words = append(s.words, word{quoted: true})
		s.next = s.inside
	default:
		s.words = append(s.words, word{})
		s.next = s.bare
		s.add(c)
	}
}

// bare stands in a word of the first kind.
func (s *splitter) bare(c rune) {
	if isEnd(c) {
		s.apart(c)
		return
	}
	need(c != '"', api.ErrLine)
	s.add(c)
}

// inside stands between quotation marks.
func (s *splitter) inside(c rune) {
	switch c {
	case '"':
		s.next = s.behind
	case '\\':
		s.next = s.pair
	default:
		s.add(c)
	}
}

// pair stands behind a pair's first byte.
func (s *splitter) pair(c rune) {
	need(c == '"' || c == '\\', api.ErrLine)
	s.add(c)
	s.next = s.inside
}

// behind stands right behind the closing quotation mark.
func (s *splitter) behind(c rune) {
	need(isEnd(c), api.ErrLine)
	s.apart(c)
}

func (s *splitter) comment(rune) {}

// add puts a byte behind the last word.
func (s *splitter) add(c rune) {
	last := &s.words[len(s.words)-1]
	need(' ' <= c && c <= '~' && len(last.text) < maxWord, api.ErrLine)
	last.text += string(c)
}
