package world

import (
	"slices"
	"strconv"
	"strings"

	"courier/api"
)

// reader is a pen that reads a line.
type reader struct {
	rest string
	over bool // nothing is left; else a word must be
}

// next takes the next word; it is empty where there is none.
func (r *reader) next() string {
	if r.over {
		return ""
	}
	word, rest, more := strings.Cut(r.rest, " ")
	r.rest, r.over = rest, !more
	return word
}

func (r *reader) number(n *int, least, most int) bool {
	word := r.next()
	read, err := strconv.Atoi(word)
	*n = read
	return err == nil && strconv.Itoa(read) == word && read >= least && read <= most
}

func (r *reader) word(text *string) bool {
	*text = r.next()
	return isWord(*text)
}

func (r *reader) option(text *string) bool {
	if !r.word(text) {
		return false
	}
	if *text == none {
		*text = ""
	}
	return true
}

func (r *reader) choice(which *int, words ...string) bool {
	*which = slices.Index(words, r.next())
	return *which >= 0
}

// bytes may have spaces among them: they are a line's last.
func (r *reader) bytes(p *[]byte) bool {
	if r.over {
		return false
	}
	r.over = true
	var ok bool
	*p, ok = unquoted(r.rest)
	return ok
}

func (r *reader) findings(list *[]api.Finding) bool {
	for !r.over {
		var f api.Finding
		if !finding(r, &f) {
			return false
		}
		*list = append(*list, f)
	}
	return true
}
