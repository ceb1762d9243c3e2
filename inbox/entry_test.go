package inbox

import (
	"bytes"
	"testing"

	"courier/api"
)

// looksAt holds Accept, and Load at the head and in the midst, against what the chapter says of one entry.
func looksAt(t *testing.T, e api.InEntry, may bool) {
	t.Helper()
	if allowed(e) != may {
		t.Fatalf("the model says %v of %v", allowed(e), e)
	}
	b, m := both(t, 2, 3, nil)
	accepts(t, b, m, e)
	if n, _ := b.Count(); (n == 1) != (may && e.Code == "") {
		t.Fatalf("Accept: %d are kept of %v", n, e)
	}
	head := []api.InEntry{{Control: "head", Text: []byte("x")}, {Control: "next", Text: []byte("x"), Code: "AE"}}
	for at := range 3 {
		list := append(deep(head[:at]), e, api.InEntry{Control: "tail"})
		if !may {
			b, err := Load(2, 3, list)
			refused(t, "Load", err, api.ErrEntry, at)
			if b != nil {
				t.Fatal("a Box beside the error")
			}
			continue
		}
		both(t, 2, 3, list[:at+1])
	}
}

// with gives an open entry and a decided one, each with one thing changed.
func with(change func(e *api.InEntry)) []api.InEntry {
	list := []api.InEntry{open(1), decided(1)}
	for i := range list {
		change(&list[i])
	}
	return list
}

func looksAtBoth(t *testing.T, may bool, change func(e *api.InEntry)) {
	t.Helper()
	for _, e := range with(change) {
		looksAt(t, e, may)
	}
}

func TestP1504Controls(t *testing.T) {
	for _, id := range someIDs() {
		looksAtBoth(t, names.MatchString(id), func(e *api.InEntry) { e.Control = id })
	}
	for id, may := range map[string]bool{"": false, "0": true, "z": true, "Z": true, ".": true, "-": true, "_": false, "/": false, ":": false, "@": false, "[": false, "`": false, "{": false, ",": false,
		"012345678901234567": true, "0123456789012345678": false, "a b": false} {
		looksAtBoth(t, may, func(e *api.InEntry) { e.Control = id })
	}
}

func TestP1504Texts(t *testing.T) {
	for _, n := range []int{0, 1, 2, 8191, 8192, 8193, 8194, 16384, 1 << 16} {
		looksAtBoth(t, n >= 1 && n <= 8192, func(e *api.InEntry) { e.Text = make([]byte, n) })
	}
	looksAtBoth(t, false, func(e *api.InEntry) { e.Text = nil })
	// Texts are not looked into.
	for c := range 256 {
		looksAtBoth(t, true, func(e *api.InEntry) { e.Text, e.Commit = []byte{byte(c)}, []byte{byte(c)} })
	}
}

func TestP1504Numbers(t *testing.T) {
	for _, n := range []int{0, 1, 7, top - 1, top} {
		looksAtBoth(t, true, func(e *api.InEntry) { e.Number = n })
	}
	for _, n := range outside(top) {
		looksAtBoth(t, false, func(e *api.InEntry) { e.Number = n })
	}
}

func TestP1504Ticks(t *testing.T) {
	for _, n := range []int{0, 1, 7, top, top + 1, latest - 1, latest} {
		looksAtBoth(t, true, func(e *api.InEntry) { e.Tick = n })
	}
	for _, n := range outside(latest) {
		looksAtBoth(t, false, func(e *api.InEntry) { e.Tick = n })
	}
}

func TestP1504Commits(t *testing.T) {
	for _, n := range []int{0, 1, 2047, 2048, 2049, 2050, 8192, 1 << 16} {
		looksAtBoth(t, n <= 2048, func(e *api.InEntry) { e.Commit = bytes.Repeat([]byte("c"), n) })
	}
	looksAtBoth(t, true, func(e *api.InEntry) { e.Commit = nil })
}

func TestP1504Answers(t *testing.T) {
	for _, n := range []int{0, 1, 2047, 2048, 2049, 2050, 8192, 1 << 16} {
		for _, code := range verdicts() {
			e := decided(1)
			e.Code, e.Answer = code, make([]byte, n)
			looksAt(t, e, n <= 2048)
		}
		e := open(1)
		e.Answer = make([]byte, n)
		looksAt(t, e, n == 0)
	}
	e := decided(1)
	e.Answer = nil
	looksAt(t, e, true)
}

func TestP1504Codes(t *testing.T) {
	for _, code := range append(append(verdicts(), ""), wrongCodes()...) {
		for _, answer := range []string{"", "y"} {
			e := open(1)
			e.Code, e.Answer = code, []byte(answer)
			looksAt(t, e, code == "AA" || code == "AE" || code == "AR" || code == "" && answer == "")
		}
	}
}

func TestP1504AllAtTheirBounds(t *testing.T) {
	e := api.InEntry{Control: "Az09.-Az09.-Az09.-", Text: make([]byte, 8192), Number: top, Tick: latest, Commit: make([]byte, 2048)}
	looksAt(t, e, true)
	e.Code, e.Answer = "AR", make([]byte, 2048)
	looksAt(t, e, true)
	looksAt(t, api.InEntry{Control: "a", Text: []byte{0}}, true)
	looksAt(t, api.InEntry{}, false)
}
