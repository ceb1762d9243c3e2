package inbox

import (
	"slices"
	"testing"

	"courier/api"
)

// The chapter's six examples.

func plain(id string) api.InEntry { return api.InEntry{Control: id, Text: []byte("x")} }

func done(id string) api.InEntry {
	return api.InEntry{Control: id, Text: []byte("x"), Code: "AA"}
}

func boxOf(t *testing.T, keep, room int, ids ...string) *Box {
	t.Helper()
	b, err := New(keep, room)
	if err != nil {
		t.Fatal(err)
	}
	for _, id := range ids {
		agrees(t, id, b.Accept(plain(id)), api.OK)
	}
	return b
}

func goesBy(t *testing.T, b *Box, id, code, answer string, gone ...string) {
	t.Helper()
	if l, err := b.Decide(id, code, []byte(answer)); err != nil || !slices.Equal(l, gone) {
		t.Fatalf("Decide(%s): %v, %v; want %v", id, l, err, gone)
	}
}

func counts(t *testing.T, b *Box, all, open int) {
	t.Helper()
	if n, o := b.Count(); n != all || o != open {
		t.Fatalf("Count() = %d, %d; want %d, %d", n, o, all, open)
	}
}

// example1 is the inbox behind the first example.
func example1(t *testing.T) *Box {
	t.Helper()
	b := boxOf(t, 2, 3, "a", "b", "c")
	refused(t, "d", b.Accept(plain("d")), api.ErrFull, 0)
	counts(t, b, 3, 3)
	refused(t, "a", b.Accept(plain("a")), api.ErrTwice, 0)
	goesBy(t, b, "b", "AA", "y")
	counts(t, b, 3, 2)
	agrees(t, "d", b.Accept(plain("d")), api.OK)
	return b
}

func TestP1504Example1(t *testing.T) { example1(t) }

func example2(t *testing.T) *Box {
	t.Helper()
	b := example1(t)
	goesBy(t, b, "a", "AE", "")
	goesBy(t, b, "c", "AA", "")
	agrees(t, "e", b.Accept(plain("e")), api.OK)
	goesBy(t, b, "d", "AR", "", "a")
	if e, ok := b.Find("a"); ok {
		t.Errorf("Find(a) = %v", e)
	}
	if e, ok := b.Find("b"); !ok || e.Code != "AA" || string(e.Answer) != "y" {
		t.Errorf("Find(b) = %v, %v", e, ok)
	}
	return b
}

func TestP1505Example2(t *testing.T) { example2(t) }

func TestP1505Example3(t *testing.T) {
	b := example2(t)
	_, err := b.Decide("b", "AA", nil)
	refused(t, "b", err, api.ErrTwice, 0)
	_, err = b.Decide("z", "AA", nil)
	refused(t, "z", err, api.ErrUnknown, 0)
	_, err = b.Decide("e", "CA", nil)
	refused(t, "CA", err, api.ErrVerdict, 0)
}

func TestP1505Example4(t *testing.T) {
	b := boxOf(t, 1, 3, "a", "b", "c")
	goesBy(t, b, "b", "AA", "")
	goesBy(t, b, "c", "AA", "")
	goesBy(t, b, "a", "AA", "", "a")
	if e, ok := b.Last(); !ok || e.Control != "c" {
		t.Errorf("Last() = %v, %v", e, ok)
	}
}

func TestP1502Example5(t *testing.T) {
	for _, x := range [][2]int{{0, 1}, {65, 1}, {1, 33}} {
		_, err := New(x[0], x[1])
		refused(t, "New", err, api.ErrArg, 0)
	}
	_, err := Load(1, 1, []api.InEntry{plain("a"), plain("b")})
	refused(t, "two open", err, api.ErrFull, 1)
	_, err = Load(1, 1, []api.InEntry{done("a"), done("b"), done("c")})
	refused(t, "three decided", err, api.ErrKeep, 0)
}

func TestP1504Example6(t *testing.T) {
	b := boxOf(t, 2, 3)
	for _, e := range []api.InEntry{
		plain(""), plain("a b"), plain("abcdefghijklmnopqrs"), {Control: "a"},
		{Control: "a", Text: []byte("x"), Number: -1}, {Control: "a", Text: []byte("x"), Answer: []byte("y")},
	} {
		refused(t, e.Control, b.Accept(e), api.ErrEntry, 0)
		_, err := Load(2, 3, []api.InEntry{e})
		refused(t, e.Control, err, api.ErrEntry, 0)
	}
	counts(t, b, 0, 0)
}
