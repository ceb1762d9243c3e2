package outbox

import (
	"bytes"
	"math"
	"testing"

	"courier/api"
)

func isRefusedLoad(t *testing.T, what string, list []api.Out, sequenced bool, tries int, code api.Errno, at int) {
	t.Helper()
	b, err := Load(list, sequenced, tries)
	if b != nil {
		t.Fatalf("%s: a box beside %v", what, err)
	}
	refused(t, what, err, code, at)
}

func TestP1401Tries(t *testing.T) {
	for _, sequenced := range kinds() {
		for _, list := range [][]api.Out{nil, {}, outs(1), outs(32)} {
			for _, tries := range []int{0, 1, 2, 15, 16} {
				b, m := both(t, list, sequenced, tries)
				stands(t, "loaded", b, m)
			}
		}
		// Tries are looked at ahead of all messages.
		for _, list := range [][]api.Out{nil, outs(1), outs(33), {{}}} {
			for _, tries := range []int{math.MinInt, -256, -1, 17, 18, 256, 257, 1 << 32, math.MaxInt} {
				isRefusedLoad(t, "tries", list, sequenced, tries, api.ErrTries, 0)
			}
		}
	}
}

func TestP1401TriesAreThoseOfEachMessage(t *testing.T) {
	for tries := range 17 {
		b := load(t, outs(3), false, tries)
		for i := range 3 {
			if _, err := b.Go(); err != nil {
				t.Fatal(err)
			}
			if s, err := b.Get(name(i)); err != nil || s.Left != tries {
				t.Fatalf("%v, %v; want %d left", s, err, tries)
			}
		}
	}
}

func TestP1401HowMany(t *testing.T) {
	for _, sequenced := range kinds() {
		for n := range 33 {
			b, m := both(t, outs(n), sequenced, 2)
			stands(t, "loaded", b, m)
		}
		for _, n := range []int{33, 34, 64, 1000} {
			isRefusedLoad(t, "many", outs(n), sequenced, 2, api.ErrFull, 0)
			isRefusedLoad(t, "many that are wrong", make([]api.Out, n), sequenced, 2, api.ErrFull, 0)
		}
	}
}

// flaw makes a message wrong; where it can't be wrong so, it tells false and leaves it.
type flaw struct {
	code api.Errno
	mar  func(list []api.Out, i int, sequenced bool) bool
}

// flaws stand in the order in which they are told.
func flaws() []flaw {
	return []flaw{
		{api.ErrControl, func(l []api.Out, i int, _ bool) bool { l[i].Control = "A 1"; return true }},
		{api.ErrTwice, func(l []api.Out, i int, _ bool) bool {
			if i == 0 || !isName(l[i].Control) {
				return false
			}
			l[i].Control = l[i/2].Control
			return true
		}},
		{api.ErrLong, func(l []api.Out, i int, _ bool) bool { l[i].Text = nil; return true }},
		{api.ErrLong, func(l []api.Out, i int, _ bool) bool { l[i].Text = make([]byte, 8193); return true }},
		{api.ErrCond, func(l []api.Out, i int, _ bool) bool { l[i].Cond = api.Conditions{Accept: 1}; return true }},
		{api.ErrCond, func(l []api.Out, i int, _ bool) bool { l[i].Noted, l[i].Cond = true, enhanced(2, 1); return true }},
		{api.ErrGiven, func(l []api.Out, i int, _ bool) bool { l[i].Number = -1; return true }},
		{api.ErrGiven, func(l []api.Out, i int, _ bool) bool { l[i].Number = top + 1; return true }},
		{api.ErrGiven, func(l []api.Out, i int, sequenced bool) bool {
			if i == 0 && sequenced {
				return false
			}
			l[i].Number = 1
			return true
		}},
	}
}

func TestP1401EachRefusalAtEachPlace(t *testing.T) {
	for _, sequenced := range kinds() {
		for i := range most {
			for _, f := range flaws() {
				list := outs(most)
				if f.mar(list, i, sequenced) {
					isRefusedLoad(t, "one flaw", list, sequenced, 2, f.code, i)
				}
			}
		}
	}
}

func TestP1401TheFirstReasonOfAMessageIsTold(t *testing.T) {
	for _, sequenced := range kinds() {
		for _, i := range []int{0, 1, 5, most - 1} {
			for set := 1; set < 1<<len(flaws()); set++ {
				list := outs(most)
				first := api.OK
				for n, f := range flaws() {
					if set>>n&1 == 1 && f.mar(list, i, sequenced) && first == api.OK {
						first = f.code
					}
				}
				if first != api.OK {
					isRefusedLoad(t, "several flaws", list, sequenced, 2, first, i)
				}
			}
		}
	}
}

func TestP1401TheFirstMessageIsTold(t *testing.T) {
	for _, sequenced := range kinds() {
		for i := range most {
			for j := i + 1; j < most; j += 3 {
				for _, f := range flaws() {
					for _, g := range flaws() {
						list := outs(most)
						if g.mar(list, j, sequenced) && f.mar(list, i, sequenced) {
							isRefusedLoad(t, "two places", list, sequenced, 2, f.code, i)
						}
					}
				}
			}
		}
	}
}

func TestP1401ControlIDs(t *testing.T) {
	for _, sequenced := range kinds() {
		for _, id := range someIDs() {
			list := outs(2)
			list[1].Control = id
			if isName(id) {
				b, m := both(t, list, sequenced, 2)
				stands(t, "loaded", b, m)
			} else {
				isRefusedLoad(t, "control", list, sequenced, 2, api.ErrControl, 1)
			}
		}
	}
}

func TestP1401Texts(t *testing.T) {
	for _, sequenced := range kinds() {
		for _, n := range []int{0, 1, 2, 8191, 8192, 8193, 8194, 1 << 16} {
			list := outs(2)
			list[1].Text = bytes.Repeat([]byte{0xff}, n)
			if n >= 1 && n <= 8192 {
				b, m := both(t, list, sequenced, 2)
				stands(t, "loaded", b, m)
			} else {
				isRefusedLoad(t, "text", list, sequenced, 2, api.ErrLong, 1)
			}
		}
	}
}

func TestP1401Conditions(t *testing.T) {
	for _, sequenced := range kinds() {
		for _, noted := range []bool{false, true} {
			for _, c := range rightConditions() {
				list := outs(3)
				list[1].Cond, list[1].Noted = c, noted
				if noted && !commits(c) {
					isRefusedLoad(t, "noted", list, sequenced, 2, api.ErrCond, 1)
					continue
				}
				b, m := both(t, list, sequenced, 2)
				stands(t, "loaded", b, m)
			}
			for _, c := range wrongConditions() {
				list := outs(3)
				list[1].Cond, list[1].Noted = c, noted
				isRefusedLoad(t, "conditions", list, sequenced, 2, api.ErrCond, 1)
			}
		}
	}
}

func TestP1401Numbers(t *testing.T) {
	for _, n := range []int{0, 1, 2, 7, top - 1, top} {
		list := outs(2)
		list[0].Number = n
		b, m := both(t, list, true, 2)
		stands(t, "loaded", b, m)
		if n == 0 {
			continue
		}
		isRefusedLoad(t, "not sequenced", list, false, 2, api.ErrGiven, 0)
		list[1].Number = n
		isRefusedLoad(t, "two numbers", list, true, 2, api.ErrGiven, 1)
		list[0].Number = 0
		isRefusedLoad(t, "not the head", list, true, 2, api.ErrGiven, 1)
		isRefusedLoad(t, "not sequenced", list, false, 2, api.ErrGiven, 1)
	}
	for _, sequenced := range kinds() {
		for _, n := range wrongNumbers() {
			for i := range 3 {
				list := outs(3)
				list[i].Number = n
				isRefusedLoad(t, "wrong number", list, sequenced, 2, api.ErrGiven, i)
			}
		}
	}
}
