package wheel

import "slices"

// A tick is a number of seven digits, of six bits each: more than MaxTick has. A level stands for each digit, the lowest first.
const (
	levels = 7
	width  = 6
	slots  = 1 << width
	mask   = slots - 1
)

// digit is a tick's digit at a level.
func digit(tick, level int) int { return tick >> (width * level) & mask }

// levelOf is the highest level at which two ticks have unlike digits; 0, if they are the same.
func levelOf(a, b int) int {
	level := 0
	for a>>(width*(level+1)) != b>>(width*(level+1)) {
		level++
	}
	return level
}

// place is where a timer lies.
type place struct{ level, slot, index int }

// timers lie by the highest digit at which they are unlike the clock: at that digit's level, in the slot of its value. So each level's slots come ahead of those of the next one, and a clock that changes a digit meets no timer of a higher level.
type timers[K Key] struct {
	now   int
	lists [levels][slots][]Due[K]
	where map[K]place
}

func (t *timers[K]) count() int { return len(t.where) }

// put adds a timer whose key has none, and whose tick is above the clock.
func (t *timers[K]) put(d Due[K]) {
	level := levelOf(t.now, d.Tick)
	slot := digit(d.Tick, level)
	list := &t.lists[level][slot]
	t.where[d.Key] = place{level, slot, len(*list)}
	*list = append(*list, d)
}

// remove tells whether the key had a timer.
func (t *timers[K]) remove(key K) bool {
	p, has := t.where[key]
	if !has {
		return false
	}
	list := &t.lists[p.level][p.slot]
	end := len(*list) - 1
	// The last one takes the gap, so that no other has to move.
	moved := (*list)[end]
	(*list)[p.index] = moved
	t.where[moved.Key] = p
	delete(t.where, key)
	*list = slices.Delete(*list, end, end+1)
	return true
}

// advance moves the clock, and gives the timers that are due, in any order.
func (t *timers[K]) advance(to int) []Due[K] {
	met := t.meet(to)
	t.now = to
	var due []Due[K]
	for _, d := range met {
		delete(t.where, d.Key)
		if d.Tick > to {
			t.put(d)
		} else {
			due = append(due, d)
		}
	}
	return due
}

// meet empties the slots to which a clock comes on its way. Only of the last one some timers may lie beyond it.
func (t *timers[K]) meet(to int) []Due[K] {
	top := levelOf(t.now, to)
	var met []Due[K]
	for level := range top {
		met = t.empty(met, level, digit(t.now, level)+1, mask)
	}
	return t.empty(met, top, digit(t.now, top)+1, digit(to, top))
}

// empty moves what lies in a level's slots from first to last behind the list.
func (t *timers[K]) empty(list []Due[K], level, first, last int) []Due[K] {
	for slot := first; slot <= last; slot++ {
		list = append(list, t.lists[level][slot]...)
		t.lists[level][slot] = nil
	}
	return list
}

func (t *timers[K]) next() (int, bool) {
	for level := range levels {
		for slot := range slots {
			if list := t.lists[level][slot]; len(list) > 0 {
				return slices.MinFunc(list, inOrder).Tick, true
			}
		}
	}
	return 0, false
}

func (t *timers[K]) at(key K) (int, bool) {
	p, has := t.where[key]
	if !has {
		return 0, false
	}
	return t.lists[p.level][p.slot][p.index].Tick, true
}

// all gives the timers in any order.
func (t *timers[K]) all() []Due[K] {
	var all []Due[K]
	for level := range levels {
		for slot := range slots {
			all = append(all, t.lists[level][slot]...)
		}
	}
	return all
}
