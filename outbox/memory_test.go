package outbox

import (
	"bytes"
	"math"
	"reflect"
	"testing"

	"courier/api"
)

func TestP1410BoxesThatNobodyMade(t *testing.T) {
	for _, b := range []*Box{nil, {}, new(Box)} {
		for range 2 {
			for _, id := range []string{"", "A1", "A 1"} {
				for _, n := range []int{math.MinInt, -1, 0, 1, top, math.MaxInt} {
					refused(t, "Add", b.Add(id, make([]byte, n&7), api.Conditions{Accept: n}), api.ErrZero, 0)
					refused(t, "Give", b.Give(n), api.ErrZero, 0)
					l, err := b.Heard(id, "CA", n)
					refused(t, "Heard", err, api.ErrZero, 0)
					if len(l) != 0 {
						t.Errorf("deeds: %v", l)
					}
				}
				l, err := b.Due(id)
				refused(t, "Due", err, api.ErrZero, 0)
				s, e := b.Get(id)
				refused(t, "Get", e, api.ErrZero, 0)
				if len(l) != 0 || !reflect.DeepEqual(s, api.Sent{}) {
					t.Errorf("%v, %v", l, s)
				}
			}
			l, err := b.Go()
			refused(t, "Go", err, api.ErrZero, 0)
			o, ok := b.Next()
			if len(l) != 0 || ok || !reflect.DeepEqual(o, api.Out{}) || len(b.List()) != 0 || b.Len() != 0 {
				t.Errorf("%v, %v, %v, %v, %d", l, o, ok, b.List(), b.Len())
			}
		}
		if b != nil && *b != (Box{}) {
			t.Errorf("a plain Box has changed: %v", *b)
		}
	}
}

// spoil writes over a text and the room behind it.
func spoil(text []byte) {
	text = text[:cap(text)]
	for i := range text {
		text[i] = '!'
	}
}

// roomy gives a text with room behind it.
func roomy(text string) []byte { return append(make([]byte, 0, 64), text...) }

func TestP1410TextsHandedIn(t *testing.T) {
	for _, sequenced := range kinds() {
		list := append(make([]api.Out, 0, 8), outs(3)...)
		for i := range list {
			list[i].Text = roomy("text")
		}
		want := outs(4)
		for i := range want {
			want[i].Text = []byte("text")
		}
		b, m := load(t, list, sequenced, 2), newModel(want[:3], sequenced, 2)
		stands(t, "loaded", b, m)
		text := roomy("text")
		if err := b.Add(name(3), text, always); err != nil {
			t.Fatal(err)
		}
		m.outs = want
		for i := range list {
			spoil(list[i].Text)
			list[i] = api.Out{Control: "gone", Number: 9}
		}
		spoil(text)
		list = append(list, api.Out{Control: "more"})
		stands(t, "written over", b, m)
		if len(list) != 4 {
			t.Fatal("the list of its holder")
		}
	}
}

func TestP1410WhatIsHandedInStays(t *testing.T) {
	for _, sequenced := range kinds() {
		list := append(make([]api.Out, 0, 8), outs(3)...)
		whole := bytes.Repeat([]byte("abcd"), 16)
		for i := range list {
			list[i].Text = whole[i*8 : i*8+5]
		}
		before := append([]api.Out(nil), list[:8]...)
		b := load(t, list, sequenced, 0)
		if err := b.Add("new", whole[30:33], always); err != nil {
			t.Fatal(err)
		}
		for range 4 {
			if sequenced {
				if err := b.Give(3); err != nil {
					t.Fatal(err)
				}
			}
			l, err := b.Go()
			if err != nil {
				t.Fatal(err)
			}
			if _, err := b.Due(l[0].Control); err != nil {
				t.Fatal(err)
			}
		}
		if !bytes.Equal(whole, bytes.Repeat([]byte("abcd"), 16)) || !reflect.DeepEqual(before, list[:8]) {
			t.Errorf("what was handed in has changed")
		}
	}
}

func TestP1410TextsHandedOut(t *testing.T) {
	for _, sequenced := range kinds() {
		b, m := both(t, outs(4), sequenced, 2)
		for range 3 {
			if o, ok := b.Next(); ok {
				spoil(o.Text)
				stands(t, "Next's text", b, m)
			}
			for i := range 4 {
				s, err := b.Get(name(i))
				if err != nil {
					t.Fatal(err)
				}
				spoil(s.Text)
				stands(t, "Get's text", b, m)
			}
			l := b.List()
			for i := range l {
				spoil(l[i].Text)
				l[i].Number, l[i].Noted, l[i].Under, l[i].State = 77, true, true, 3
			}
			stands(t, "List's texts", b, m)
			gives(t, b, m, 3)
			goes(t, b, m)
		}
	}
}

func TestP1408TextsOfOneListShareNothing(t *testing.T) {
	for _, sequenced := range kinds() {
		b := load(t, outs(8), sequenced, 2)
		for i := range 8 {
			l := b.List()
			other := b.List()
			spoil(l[i].Text)
			for j := range 8 {
				want := out(j).Text
				if !bytes.Equal(other[j].Text, want) || j != i && !bytes.Equal(l[j].Text, want) {
					t.Fatalf("the text %d has changed with %d", j, i)
				}
			}
		}
	}
}

func TestP1410DeedsHandedOut(t *testing.T) {
	b, m := both(t, outs(3), false, 2)
	for range 3 {
		l := goes(t, b, m)
		for i := range l[:cap(l)] {
			l[:cap(l)][i] = api.Deed{Control: "spoilt"}
		}
		stands(t, "deeds written over", b, m)
	}
	l := hears(t, b, m, name(1), "CA", 0)
	l[0].Kind = api.ActFinal
	stands(t, "deeds written over", b, m)
	did(t, "Due", isDue(t, b, m, name(1)), nil, "A1 Send, A1 Timer")
}

func TestP1408TellingChangesNothing(t *testing.T) {
	for _, sequenced := range kinds() {
		b, m := both(t, outs(3), sequenced, 2)
		for range 20 {
			stands(t, "telling", b, m)
			if _, err := b.Get("nobody"); err == nil {
				t.Fatal("nobody is there")
			}
		}
		gives(t, b, m, 3)
		goes(t, b, m)
		for range 20 {
			stands(t, "telling", b, m)
		}
	}
}
