package inbox

import (
	"strings"
	"testing"

	"courier/api"
)

func TestP1503FindOfAnyText(t *testing.T) {
	b, m := both(t, 2, 3, entries("odod"))
	for _, id := range append(someIDs(), "", "a0", "A0 ", " A0", "A00", "A4", "A0\x00", "A0A1") {
		if e, ok := b.Find(id); ok || !isNone(e) {
			t.Fatalf("Find(%q) = %v, %v", id, e, ok)
		}
	}
	for i, want := range entries("odod") {
		if e, ok := b.Find(name(i)); !ok || !isSame(e, want) {
			t.Fatalf("Find(%s) = %v, %v", name(i), e, ok)
		}
	}
	stands(t, "Find", b, m)
}

func TestP1503WhereThereIsNone(t *testing.T) {
	b, m := both(t, 1, 1, nil)
	for range 2 {
		for _, id := range []string{"", "a", "a b"} {
			if e, ok := b.Find(id); ok || !isNone(e) {
				t.Fatalf("Find(%q) = %v, %v", id, e, ok)
			}
		}
		if e, ok := b.Last(); ok || !isNone(e) {
			t.Fatalf("Last() = %v, %v", e, ok)
		}
		accepts(t, b, m, decided(1))
	}
}

// Those behind one that goes are found still, each by its own control id.
func TestP1503FindBehindWhatGoes(t *testing.T) {
	for gone := range 5 {
		list := entries("ooooooo")
		for i := range list {
			if i >= gone && i < gone+2 {
				list[i].Code = "AR"
			}
		}
		b, m := both(t, 1, 7, list)
		wentBy(t, b, m, name(6), name(gone))
		for i := range list {
			if e, ok := b.Find(name(i)); ok == (i == gone) || ok && e.Number != i {
				t.Fatalf("%d has gone: Find(%s) = %v, %v", gone, name(i), e, ok)
			}
		}
		decides(t, b, m, name((gone+3)%6), "AA", nil)
		accepts(t, b, m, open(7))
	}
}

func TestP1503Last(t *testing.T) {
	for _, word := range []string{"o", "d", "od", "do", "ood", "ddo"} {
		b, m := both(t, 2, 4, entries(word))
		isLast(t, b, entries(word)[len(word)-1])
		accepts(t, b, m, open(9))
		isLast(t, b, open(9))
		wentBy(t, b, m, name(9))
		e := open(9)
		e.Code, e.Answer = "AA", []byte("y")
		isLast(t, b, e)
	}
}

func isLast(t *testing.T, b *Box, want api.InEntry) {
	t.Helper()
	if e, ok := b.Last(); !ok || !isSame(e, want) {
		t.Fatalf("Last() = %v, %v; want %v", e, ok, want)
	}
}

func TestP1506OrderOfAcceptance(t *testing.T) {
	b, m := both(t, 2, 4, nil)
	for _, id := range []string{"m", "z", "a", "M"} {
		e := api.InEntry{Control: id, Text: []byte("x")}
		accepts(t, b, m, e)
	}
	isOrder(t, b, "m z a M", "m z a M", 4)
	wentBy(t, b, m, "a")
	isOrder(t, b, "m z a M", "m z M", 3)
	wentBy(t, b, m, "m")
	isOrder(t, b, "m z a M", "z M", 2)
	accepts(t, b, m, api.InEntry{Control: "b", Text: []byte("x")})
	isOrder(t, b, "m z a M b", "z M b", 3)
	wentBy(t, b, m, "M")
	wentBy(t, b, m, "z", "m")
	isOrder(t, b, "z a M b", "b", 1)
	wentBy(t, b, m, "b", "z")
	isOrder(t, b, "a M b", "", 0)
}

// isOrder: List, Open and Count tell these.
func isOrder(t *testing.T, b *Box, all, open string, opens int) {
	t.Helper()
	var ids []string
	for _, e := range b.List() {
		ids = append(ids, e.Control)
	}
	n, o := b.Count()
	if strings.Join(ids, " ") != all || strings.Join(b.Open(), " ") != open || n != len(ids) || o != opens {
		t.Fatalf("%v, open %v, %d, %d; want %s, open %s, %d", ids, b.Open(), n, o, all, open, opens)
	}
}

func TestP1506TellingChangesNothing(t *testing.T) {
	b, m := both(t, 1, 3, entries("odod"))
	for range 20 {
		stands(t, "telling", b, m)
		if _, ok := b.Find("nobody"); ok {
			t.Fatal("nobody is there")
		}
	}
	wentBy(t, b, m, name(2), name(1))
	for range 20 {
		stands(t, "telling", b, m)
	}
}
