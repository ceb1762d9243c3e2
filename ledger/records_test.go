package ledger

import (
	"bytes"
	"math"
	"reflect"
	"slices"
	"strconv"
	"strings"
	"testing"

	"courier/api"
)

// P1602, P1603: records that are written well, and those that are not.

// good gives a record of each kind, with something in each field that its kind names.
func good() []api.Record {
	return []api.Record{
		{Kind: api.RecOut, Control: "A-1.z", Text: []byte("MSH|m\r"), Cond: always},
		{Kind: api.RecNumber, Control: "A1", Number: 258},
		{Kind: api.RecCommit, Control: "A1"},
		{Kind: api.RecFinal, Control: "A1", State: api.WantAnswered, Code: "CE"},
		{Kind: api.RecIn, Control: "B1", Text: []byte("MSH|n\r"), Number: 7, Tick: 65538, Commit: []byte("CA")},
		{Kind: api.RecVerdict, Control: "B1", Code: "AR", Answer: []byte("answer")},
		{Kind: api.RecNext, Number: 9},
		{Kind: api.RecOpen, Control: "R1"},
	}
}

// borders are more records that are written well.
func borders() []api.Record {
	long, most := strings.Repeat("z", 18), bytes.Repeat([]byte{0xFF}, longest)
	list := []api.Record{
		{Kind: 1, Control: "0", Text: []byte{0}},
		{Kind: 1, Control: long, Text: most, Cond: success},
		{Kind: 2, Control: "-", Number: 1},
		{Kind: 2, Control: long, Number: top},
		{Kind: 3, Control: long},
		{Kind: 4, Control: ".", State: api.WantClosed},
		{Kind: 4, Control: long, State: api.WantFailed},
		{Kind: 5, Control: "a", Text: []byte{0}},
		{Kind: 5, Control: long, Text: most, Number: top, Tick: latest, Commit: most[:mostAns]},
		{Kind: 6, Control: "a", Code: "AA"},
		{Kind: 6, Control: long, Code: "AE", Answer: most[:mostAns]},
		{Kind: 7},
		{Kind: 7, Number: top},
		{Kind: 8, Control: long},
	}
	for _, c := range allConds() {
		list = append(list, api.Record{Kind: 1, Control: "c", Text: []byte("m"), Cond: c})
	}
	for _, code := range codes() {
		list = append(list, api.Record{Kind: 4, Control: "c", State: api.WantAnswered, Code: code})
	}
	return list
}

func someIDs() []string {
	list := []string{"é", "世", "a b", "A1\n", "\nA1", "A1\x00", "..", "--", "-1", string(make([]byte, 1<<16)), strings.Repeat("a", 1<<16)}
	for n := range 40 {
		list = append(list, strings.Repeat("x", n))
	}
	long := strings.Repeat("q", 17)
	for c := range 256 {
		b := string([]byte{byte(c)})
		list = append(list, b, "Q"+b, b+"Q", "Q"+b+"Q", long+b, b+long, long+"q"+b)
	}
	return list
}

func someNumbers() []int {
	return []int{math.MinInt, -1 << 32, -top, -2, -1, 0, 1, 2, 3, 4, 5, 6, 7, 255, 256, top - 1, top, top + 1, 1 << 32, 1<<32 + 1,
		latest - 1, latest, latest + 1, 1 << 62, math.MaxInt}
}

func someCodes() []string {
	return append(codes(), "", "A", "C", "aa", "Aa", "ca", "AAA", "CAA", "AA ", " AA", "AB", "CB", "CAR", "RA", "AC", "\x00\x00", "AA\x00", "AL", "NE", "BA", "0")
}

func someTexts(most int) [][]byte {
	return [][]byte{nil, {}, {0}, []byte("m"), make([]byte, most-1), make([]byte, most), make([]byte, most+1), make([]byte, 1<<17)}
}

// changes gives every record that is this one but for one field, and that a value of its kind at each border.
func changes(r api.Record) []api.Record {
	var list []api.Record
	put := func(do func(c *api.Record)) {
		c := r
		do(&c)
		list = append(list, c)
	}
	for _, n := range someNumbers() {
		put(func(c *api.Record) { c.Kind = n })
		put(func(c *api.Record) { c.Number = n })
		put(func(c *api.Record) { c.Tick = n })
		put(func(c *api.Record) { c.State = n })
	}
	for _, id := range someIDs() {
		put(func(c *api.Record) { c.Control = id })
	}
	for _, code := range someCodes() {
		put(func(c *api.Record) { c.Code = code })
	}
	for _, cond := range slices.Concat(allConds(), wrongConds()) {
		put(func(c *api.Record) { c.Cond = cond })
	}
	for _, b := range someTexts(longest) {
		put(func(c *api.Record) { c.Text = b })
	}
	for _, b := range someTexts(mostAns) {
		put(func(c *api.Record) { c.Commit = b })
		put(func(c *api.Record) { c.Answer = b })
	}
	return list
}

// judges holds Encode, and Apply's first look, against what the chapter's table says.
func judges(t *testing.T, r api.Record) {
	t.Helper()
	what := "kind " + strconv.Itoa(r.Kind)
	b, err := Encode(r)
	terms := api.Terms{Sends: true, Takes: true, Keep: 1}
	_, no := Apply(terms, api.Tables{Next: 1, Expects: 1}, r)
	if at := flawOf(r); at != 0 {
		refused(t, what, err, api.ErrBook, at)
		refused(t, what, no, api.ErrBook, at)
		if len(b) != 0 {
			t.Fatalf("%s: bytes beside an error: %v", what, b)
		}
		return
	}
	done(t, err)
	if want := bytesOf(r); !bytes.Equal(b, want) {
		t.Fatalf("%s: % X, want % X", what, b, want)
	}
	if no != nil {
		refused(t, what, no, api.ErrBook, 0)
	}
}

func TestP1603EachFieldAtItsBorders(t *testing.T) {
	for _, r := range slices.Concat(good(), borders()) {
		if flawOf(r) != 0 {
			t.Fatalf("%+v: the model finds field %d", r, flawOf(r))
		}
		judges(t, r)
	}
	for _, r := range good() {
		for _, c := range changes(r) {
			judges(t, c)
		}
	}
}

// Each field that is wrong, by its number: said here once more in full.
func TestP1603FieldsThatAreWrong(t *testing.T) {
	g := good()
	with := func(kind int, do func(r *api.Record)) api.Record {
		r := g[kind-1]
		do(&r)
		return r
	}
	for i, s := range []struct {
		r  api.Record
		at int
	}{
		{api.Record{}, 1}, {api.Record{Kind: 9}, 1}, {api.Record{Kind: -1}, 1}, {api.Record{Kind: 257, Control: "a"}, 1},
		{api.Record{Kind: 0, Control: "a b", Number: 4}, 1},
		{with(1, func(r *api.Record) { r.Control = "" }), 2},
		{with(1, func(r *api.Record) { r.Text = nil }), 3},
		{with(1, func(r *api.Record) { r.Text = make([]byte, 8193) }), 3},
		{with(1, func(r *api.Record) { r.Cond.Accept = 4 }), 4},
		{with(1, func(r *api.Record) { r.Cond.Enhanced = false }), 4},
		{with(2, func(r *api.Record) { r.Number = 0 }), 5},
		{with(2, func(r *api.Record) { r.Number = top + 1 }), 5},
		{with(3, func(r *api.Record) { r.Control = "a_b" }), 2},
		{with(4, func(r *api.Record) { r.State = api.WantListen }), 7},
		{with(4, func(r *api.Record) { r.State = 7 }), 7},
		{with(4, func(r *api.Record) { r.State, r.Code = 0, "" }), 7},
		{with(4, func(r *api.Record) { r.State = api.WantClosed }), 8},
		{with(4, func(r *api.Record) { r.State = api.WantFailed }), 8},
		{with(4, func(r *api.Record) { r.Code = "" }), 8},
		{with(4, func(r *api.Record) { r.Code = "AS" }), 8},
		{with(5, func(r *api.Record) { r.Number = -1 }), 5},
		{with(5, func(r *api.Record) { r.Tick = -1 }), 6},
		{with(5, func(r *api.Record) { r.Tick = latest + 1 }), 6},
		{with(5, func(r *api.Record) { r.Commit = make([]byte, 2049) }), 9},
		{with(6, func(r *api.Record) { r.Code = "CA" }), 8},
		{with(6, func(r *api.Record) { r.Code = "" }), 8},
		{with(6, func(r *api.Record) { r.Answer = make([]byte, 2049) }), 10},
		{with(7, func(r *api.Record) { r.Number = -1 }), 5},
		{with(7, func(r *api.Record) { r.Number = top + 1 }), 5},
		{with(8, func(r *api.Record) { r.Control = strings.Repeat("r", 19) }), 2},
	} {
		if flawOf(s.r) != s.at {
			t.Errorf("%d: the model says %d, want %d", i, flawOf(s.r), s.at)
		}
		judges(t, s.r)
	}
}

// set puts a value that is not zero into the field with that number.
func set(r *api.Record, field int) {
	v := reflect.ValueOf(r).Elem().Field(field - 1)
	switch v.Kind() {
	case reflect.Int:
		v.SetInt(1)
	case reflect.String:
		v.SetString("AA")
	case reflect.Slice:
		v.SetBytes([]byte("x"))
	default:
		v.Set(reflect.ValueOf(never))
	}
}

// A field that the kind does not name must be zero; of several at fault the first is told.
func TestP1603FieldsThatShouldBeZero(t *testing.T) {
	for _, r := range good() {
		rules := wells()[r.Kind]
		for one := 2; one <= 10; one++ {
			if rules[one] != nil {
				continue
			}
			c := r
			set(&c, one)
			_, err := Encode(c)
			refused(t, "not zero", err, api.ErrBook, one)
			judges(t, c)
			for other := one + 1; other <= 10; other++ {
				d := c
				if rules[other] == nil {
					set(&d, other)
				} else {
					reflect.ValueOf(&d).Elem().Field(other - 1).SetZero()
				}
				_, err := Encode(d)
				refused(t, "two at fault", err, api.ErrBook, one)
			}
		}
	}
}

// Empty byte strings are as zero as none.
func TestP1603NilAndEmptyAreOne(t *testing.T) {
	for _, r := range good() {
		c := r
		for _, b := range []*[]byte{&c.Text, &c.Commit, &c.Answer} {
			if *b == nil {
				*b = []byte{}
			}
		}
		one, err := Encode(r)
		other, no := Encode(c)
		done(t, err, no)
		if !bytes.Equal(one, other) {
			t.Errorf("kind %d: % X, % X", r.Kind, one, other)
		}
	}
}
