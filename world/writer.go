package world

import (
	"strconv"

	"courier/api"
)

// writer is a pen that writes a line; it does not ask whether what it writes may stand there.
type writer struct{ words []string }

func (w *writer) add(words ...string) bool {
	w.words = append(w.words, words...)
	return true
}

func (w *writer) number(n *int, _, _ int) bool { return w.add(strconv.Itoa(*n)) }

func (w *writer) word(text *string) bool { return w.add(*text) }

func (w *writer) option(text *string) bool {
	if *text == "" {
		return w.add(none)
	}
	return w.add(*text)
}

func (w *writer) choice(which *int, words ...string) bool {
	return *which >= 0 && *which < len(words) && w.add(words[*which])
}

func (w *writer) bytes(p *[]byte) bool { return w.add(quoted(*p)) }

func (w *writer) findings(list *[]api.Finding) bool {
	for _, f := range *list {
		finding(w, &f)
	}
	return true
}
