package decide

import (
	"slices"
	"testing"

	"courier/api"
)

// P1111, and what DOC.md says of memory. (That no call panics, the tests over all arguments show.)

// calls are calls that answer lists, one for each way through the package.
func calls() []func() []api.Act {
	var list []func() []api.Act
	add := func(call func() []api.Act) { list = append(list, call) }
	for _, f := range facts() {
		add(func() []api.Act { _, l, _ := Start(f.c, 2, false); return l })
		add(func() []api.Act { _, l, _ := Start(f.c, 2, true); return l })
		add(func() []api.Act { _, l, _ := Take(f.c); return l })
		for _, w := range someWants() {
			if !modelFits(f, w) {
				continue
			}
			add(func() []api.Act { _, l, _ := Due(f.c, w); return l })
			for _, code := range append(sixCodes(), "XX") {
				add(func() []api.Act { _, l, _ := Heard(f.c, w, code, false); return l })
				add(func() []api.Act { _, l, _ := Heard(f.c, w, code, true); return l })
			}
		}
		for _, verdict := range []string{"AA", "AE", "AR"} {
			add(func() []api.Act { _, l, _ := Judge(f.c, api.Kept{}, verdict); return l })
			add(func() []api.Act { l, _ := Copy(f.c, api.Kept{Decided: true, Code: verdict}); return l })
		}
		add(func() []api.Act { l, _ := Copy(f.c, api.Kept{}); return l })
	}
	return list
}

// spoil overwrites a list and the room behind it.
func spoil(list []api.Act) {
	list = list[:cap(list)]
	for i := range list {
		list[i] = act(99, "spoilt")
	}
}

func TestP1111ListsAreNew(t *testing.T) {
	var kept, right [][]api.Act
	for _, call := range calls() {
		l := call()
		right = append(right, slices.Clone(l))
		spoil(l)
		if again := call(); !slices.Equal(again, right[len(right)-1]) {
			t.Fatalf("%q behind a spoilt answer, want %q", does(again), does(right[len(right)-1]))
		}
		kept = append(kept, call())
	}
	for i, l := range kept {
		if !slices.Equal(l, right[i]) {
			t.Fatalf("an answer that was kept: %q, want %q", does(l), does(right[i]))
		}
		spoil(l)
	}
}

func TestP1111TheSameAnswerAgain(t *testing.T) {
	list := calls()
	first := make([]string, len(list))
	for i, call := range list {
		first[i] = does(call())
	}
	for i := range slices.Backward(list) {
		if again := does(list[i]()); again != first[i] {
			t.Fatalf("call %d: %q, then %q", i, first[i], again)
		}
	}
}
