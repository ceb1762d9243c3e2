package profile

import (
	"strconv"
	"strings"

	"courier/api"
	"courier/path"
)

const (
	msh     = "MSH"
	blanks  = " \t\r\n"
	alone   = "=;[]{}<>|" // each of these bytes is a word by itself
	maxCode = 20
	digits  = 4 // of a table's number
)

// word is a word of a text, with the place of its first byte.
type word struct {
	text string
	at   int
}

// split tells a text's words. Behind them stands an empty one, at the text's end.
func split(text string) []word {
	var list []word
	for at := 0; at < len(text); {
		size := 1
		switch b := text[at]; {
		case b == '#':
			size = upTo(text[at:], "\n")
		case has(blanks, b):
		case has(alone, b):
			list = append(list, word{text[at : at+1], at})
		default:
			size = upTo(text[at:], blanks+alone+"#")
			list = append(list, word{text[at : at+size], at})
		}
		at += size
	}
	return append(list, word{at: len(text)})
}

// upTo counts the bytes ahead of the first that is one of these.
func upTo(text, these string) int {
	if n := strings.IndexAny(text, these); n >= 0 {
		return n
	}
	return len(text)
}

func has(these string, b byte) bool { return strings.IndexByte(these, b) >= 0 }

// isForeign tells whether a byte may not stand in a text. One above 7E begins a rune above it, or none, which is read as FFFD: it is foreign either way.
func isForeign(r rune) bool {
	return (r < ' ' || r > '~') && r != '\t' && r != '\r' && r != '\n'
}

func isTable(text string) bool { return len(text) == digits && areAll(text, isDigit) }

func isCode(text string) bool {
	switch text {
	case "", "end", "table", "segment", "message":
		return false
	}
	return len(text) <= maxCode && areAll(text, isCodeByte)
}

// isSeg tells whether a text is a segment's name: then it has a first field, which layer 7 takes.
func isSeg(text string) bool {
	_, err := path.Print(api.Place{Seg: text, Occur: 1, Field: 1, Rep: 1, Comp: 1, Sub: 1})
	return err == nil
}

// isLocal tells whether a segment is one that may stand everywhere.
func isLocal(name string) bool { return strings.HasPrefix(name, "Z") }

func isUse(text string) bool { return text == "R" || text == "O" || text == "X" }

// number reads a number without zeros ahead.
func number(text string, least, most int) (int, bool) {
	n, err := strconv.Atoi(text)
	return n, err == nil && strconv.Itoa(n) == text && least <= n && n <= most
}

func isDigit(b byte) bool { return '0' <= b && b <= '9' }

func isCodeByte(b byte) bool {
	return isDigit(b) || 'A' <= b && b <= 'Z' || 'a' <= b && b <= 'z' || has("_.-", b)
}

func areAll(text string, is func(b byte) bool) bool {
	for i := range len(text) {
		if !is(text[i]) {
			return false
		}
	}
	return true
}
