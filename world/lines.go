package world

import (
	"iter"
	"strings"
)

// lines are those of a text, with their numbers from 1 on, without their ends.
func lines(text string) iter.Seq2[int, string] {
	return func(yield func(int, string) bool) {
		rest := text
		for number := 1; rest != ""; number++ {
			line, behind, _ := strings.Cut(rest, "\n")
			if !yield(number, line) {
				return
			}
			rest = behind
		}
	}
}

// line puts words into one, with its end.
func line(words ...string) string { return strings.Join(words, " ") + "\n" }

// isWord asks for 1 to 64 bytes that are seen and are no quotation marks.
func isWord(text string) bool {
	for i := range len(text) {
		if text[i] <= ' ' || text[i] > '~' || text[i] == '"' {
			return false
		}
	}
	return len(text) >= 1 && len(text) <= maxWord
}

const maxWord = 64
