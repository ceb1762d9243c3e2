package inbox

import (
	"slices"
	"strings"
	"testing"

	"courier/api"
)

func TestP1502None(t *testing.T) {
	for _, list := range [][]api.InEntry{nil, {}, make([]api.InEntry, 0, 9)} {
		b, m := both(t, 2, 3, list)
		accepts(t, b, m, open(1))
	}
}

// letters writes a number as so many letters, an open entry for each 1 in it.
func letters(number, n int) string {
	var s strings.Builder
	for i := range n {
		s.WriteByte("do"[number>>i&1])
	}
	return s.String()
}

func TestP1502EveryMixOfOpenAndDecided(t *testing.T) {
	for n := range 8 {
		for number := range 1 << n {
			word := letters(number, n)
			for keep := 1; keep <= 3; keep++ {
				for room := 1; room <= 3; room++ {
					loads(t, word, keep, room)
				}
			}
		}
	}
}

// loads holds a Load of right entries against the chapter: only their counts can be at fault.
func loads(t *testing.T, word string, keep, room int) {
	t.Helper()
	opens, full := 0, -1
	for i, c := range word {
		if c == 'o' {
			opens++
			if opens == room+1 {
				full = i
			}
		}
	}
	b, err := Load(keep, room, entries(word))
	switch {
	case full >= 0:
		refused(t, word, err, api.ErrFull, full)
	case len(word)-opens > keep+1:
		refused(t, word, err, api.ErrKeep, strings.IndexByte(word, 'd'))
	default:
		agrees(t, word, err, api.OK)
		stands(t, word, b, &model{keep, room, entries(word)})
		return
	}
	if b != nil {
		t.Fatal("a Box beside the error")
	}
}

func TestP1502Many(t *testing.T) {
	full := strings.Repeat("do", mostIn) + strings.Repeat("d", mostOld+1-mostIn)
	loads(t, full, mostOld, mostIn)
	loads(t, full+"d", mostOld, mostIn)
	loads(t, full+"o", mostOld, mostIn)
	loads(t, "o"+full, mostOld, mostIn)
	loads(t, full, mostOld-1, mostIn)
	loads(t, full, mostOld, mostIn-1)
	loads(t, strings.Repeat("o", mostIn)+strings.Repeat("d", mostOld+1), mostOld, mostIn)
	loads(t, strings.Repeat("o", mostIn)+strings.Repeat("d", mostOld+2), mostOld, mostIn)
	loads(t, strings.Repeat("d", 20000), 1, 1)
	loads(t, strings.Repeat("o", 20000), 1, mostIn)
	loads(t, "ooo"+strings.Repeat("d", 20000), mostOld, mostIn)
	loads(t, strings.Repeat("d", 20000)+"oo", 1, 1)
}

// reasons are those for which a Load refuses an entry, with their numbers.
func reasons() map[string]api.Errno {
	return map[string]api.Errno{"entry": api.ErrEntry, "tick": api.ErrEntry, "twice": api.ErrTwice, "full": api.ErrFull}
}

// breaks makes the entry at a place wrong for one reason; false: that reason can't be at this place.
func breaks(list []api.InEntry, at int, reason string) bool {
	switch reason {
	case "entry":
		list[at].Text = nil
	case "tick":
		if at == 0 {
			return false
		}
		list[at].Tick = list[at-1].Tick - 1
	case "twice":
		if at == 0 {
			return false
		}
		list[at].Control = list[(at-1)/2].Control
	case "full":
		for i := range list[:at+1] {
			list[i].Code, list[i].Answer = "", nil
		}
	}
	return true
}

func TestP1502EachRefusalAtEachPlace(t *testing.T) {
	const n = 9
	for at := range n {
		for reason, code := range reasons() {
			room := mostIn
			if reason == "full" {
				if room = at; at == 0 {
					continue
				}
			}
			list := entries(strings.Repeat("d", n))
			for i := range list {
				list[i].Tick += 5
			}
			if !breaks(list, at, reason) {
				continue
			}
			// The fault that a later entry has, and the ErrKeep of all of them, are not told.
			for later := at; later < n; later++ {
				if later > at {
					list[later].Control = "no id"
				}
				b, err := Load(1, room, list)
				refused(t, reason, err, code, at)
				if b != nil {
					t.Fatal("a Box beside the error")
				}
			}
		}
	}
}

func TestP1502ReasonsOfOneEntryInTheirOrder(t *testing.T) {
	for set := range 1 << 4 {
		list := entries("oooo")
		list[3].Tick = 2
		var want api.Errno
		room := 4
		if set&8 != 0 {
			room, want = 3, api.ErrFull
		}
		if set&4 != 0 {
			list[3].Control, want = name(1), api.ErrTwice
		}
		if set&2 != 0 {
			list[3].Tick, want = 1, api.ErrEntry
		}
		if set&1 != 0 {
			list[3].Number, want = -1, api.ErrEntry
		}
		_, err := Load(4, room, list)
		if want == api.OK {
			agrees(t, "Load", err, want)
		} else {
			refused(t, "Load", err, want, 3)
		}
	}
}

func TestP1502Ticks(t *testing.T) {
	for _, c := range []struct {
		ticks []int
		at    int // -1: none is at fault
	}{
		{[]int{0, 0, 0}, -1}, {[]int{7, 7, 8}, -1}, {[]int{0, latest, latest}, -1}, {[]int{latest, latest - 1}, 1},
		{[]int{1, 0}, 1}, {[]int{5, 6, 5}, 2}, {[]int{5, 4, 6}, 1}, {[]int{3, 9, 4, 8}, 2}, {[]int{1, 2, 3, 2, 1}, 3},
	} {
		for _, word := range []string{"ooooo", "ddddd", "dodod"} {
			list := entries(word)[:len(c.ticks)]
			for i, n := range c.ticks {
				list[i].Tick = n
			}
			if c.at < 0 {
				both(t, mostOld, mostIn, list)
				continue
			}
			_, err := Load(mostOld, mostIn, list)
			refused(t, "Load", err, api.ErrEntry, c.at)
		}
	}
}

func TestP1502ControlIDsTwice(t *testing.T) {
	for _, word := range []string{"oooo", "dddd", "dodo", "oddo"} {
		for i := range 4 {
			for j := range i {
				list := entries(word)
				list[i].Control = list[j].Control
				_, err := Load(mostOld, mostIn, list)
				refused(t, word, err, api.ErrTwice, i)
			}
		}
		list := entries(word)
		for i := range list {
			list[i].Control = []string{"a", "A", "a.", "-a"}[i]
		}
		both(t, mostOld, mostIn, list)
	}
}

func TestP1502DecidedOnesAreNotInTheRoom(t *testing.T) {
	b, m := both(t, 5, 1, entries("dddddo"))
	accepts(t, b, m, open(9))
	wentBy(t, b, m, name(5))
	accepts(t, b, m, open(9))
	if !slices.Equal(b.Open(), []string{name(9)}) {
		t.Fatalf("Open() = %v", b.Open())
	}
}

func TestP1502OrderIsThatOfTheList(t *testing.T) {
	list := entries("ododo")
	slices.Reverse(list)
	for i := range list {
		list[i].Tick = 4
	}
	b, m := both(t, 2, 3, list)
	if e, ok := b.Last(); !ok || e.Control != name(0) {
		t.Fatalf("Last() = %v, %v", e, ok)
	}
	if !slices.Equal(b.Open(), []string{name(4), name(2), name(0)}) {
		t.Fatalf("Open() = %v", b.Open())
	}
	wentBy(t, b, m, name(0))
	wentBy(t, b, m, name(4), name(4))
	wentBy(t, b, m, name(2), name(3))
}
