package outbox

import "slices"

// keyed is a list of things in the order in which they came, no two with one key.
type keyed[K comparable, T any] struct {
	keyOf func(thing T) K
	list  []T
}

func (k *keyed[K, T]) count() int { return len(k.list) }

// place is -1, where no thing has the key.
func (k *keyed[K, T]) place(key K) int {
	return slices.IndexFunc(k.list, func(thing T) bool { return k.keyOf(thing) == key })
}

func (k *keyed[K, T]) find(key K) (T, bool) {
	at := k.place(key)
	if at < 0 {
		var none T
		return none, false
	}
	return k.list[at], true
}

// put lets a thing stand in the place of the one with its key, or else behind all others.
func (k *keyed[K, T]) put(thing T) {
	if at := k.place(k.keyOf(thing)); at >= 0 {
		k.list[at] = thing
	} else {
		k.list = append(k.list, thing)
	}
}

func (k *keyed[K, T]) remove(key K) {
	if at := k.place(key); at >= 0 {
		k.list = slices.Delete(k.list, at, at+1)
	}
}
