package world

import "slices"

// form is how things of a kind stand in a line: the kind's word, and the places that a pen passes behind it.
type form[K comparable, T any] struct {
	kind   K
	word   string
	places func(*T, pen) bool
}

// readAs reads what is left of a line: a thing and its kind.
func readAs[K comparable, T any](r *reader, forms []form[K, T]) (K, T, bool) {
	var made T
	word := r.next()
	at := slices.IndexFunc(forms, func(f form[K, T]) bool { return f.word == word })
	if at < 0 || !forms[at].places(&made, r) || !r.over {
		var no K
		return no, made, false
	}
	return forms[at].kind, made, true
}

// writeAs writes a thing of that kind.
func writeAs[K comparable, T any](w *writer, kind K, thing *T, forms []form[K, T]) bool {
	at := slices.IndexFunc(forms, func(f form[K, T]) bool { return f.kind == kind })
	return at >= 0 && w.add(forms[at].word) && forms[at].places(thing, w)
}
