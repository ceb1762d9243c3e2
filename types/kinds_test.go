package types

import (
	"math"
	"slices"
	"strconv"
	"strings"
	"testing"

	"courier/api"
)

func TestP801Known(t *testing.T) {
	names := allNames()
	if len(names) != 10+9+12 {
		t.Fatalf("the model has %d kinds", len(names))
	}
	for _, kind := range names {
		if !Known(kind) {
			t.Errorf("Known(%q) is false", kind)
		}
		for _, other := range []string{strings.ToLower(kind), " " + kind, kind + " ", kind + "*", kind + "\x00", kind[:1], kind + kind, "X" + kind} {
			if Known(other) != slices.Contains(names, other) {
				t.Errorf("Known(%q) is %v", other, Known(other))
			}
		}
	}
	if Known("") {
		t.Error("Known of the empty name")
	}
}

func TestP801EveryShortName(t *testing.T) {
	names := allNames()
	letters := "ABCDEFGHIJKLMNOPQRSTUVWXYZ"
	ask := func(kind string) {
		if Known(kind) != slices.Contains(names, kind) {
			t.Errorf("Known(%q) is %v", kind, Known(kind))
		}
	}
	for _, a := range letters {
		ask(string(a))
		for _, b := range letters {
			ask(string(a) + string(b))
			for _, c := range letters {
				ask(string(a) + string(b) + string(c))
			}
		}
	}
}

func TestP801EveryTableNumber(t *testing.T) {
	numbers := tableNumbers
	for n := range 10000 {
		four := strconv.Itoa(10000 + n)[1:]
		want := slices.Contains(numbers, four)
		if Known("ID"+four) != want {
			t.Errorf("Known(ID%s) is %v", four, !want)
		}
		for _, name := range []string{"IS" + four, "id" + four, four, "ID" + strconv.Itoa(n), "ID0" + four, "ID" + four + "0", "ID" + four[1:], "ID+" + four[1:], "ID " + four} {
			if Known(name) && !(n >= 1000 && want) {
				t.Errorf("Known(%s)", name)
			}
		}
	}
}

func TestP801Parts(t *testing.T) {
	composite, rows := compositeNames, modelWords
	for _, kind := range composite {
		kinds, must, err := Parts(kind)
		if err != nil || len(kinds) != len(must) || len(kinds) != len(rows[kind]) {
			t.Errorf("Parts(%s): %v, %v, %v", kind, kinds, must, err)
			continue
		}
		for i, word := range rows[kind] {
			if name, star := strings.CutSuffix(word, "*"); kinds[i] != name || must[i] != star {
				t.Errorf("Parts(%s): part %d is %s, %v, want %s", kind, i, kinds[i], must[i], word)
			}
		}
	}
	for _, kind := range primitiveNames() {
		kinds, must, err := Parts(kind)
		if err != nil || !slices.Equal(kinds, []string{kind}) || !slices.Equal(must, []bool{false}) {
			t.Errorf("Parts(%s): %v, %v, %v", kind, kinds, must, err)
		}
	}
	for _, kind := range noKinds {
		kinds, must, err := Parts(kind)
		refused(t, "Parts("+kind+")", err, api.ErrKind, 0)
		if kinds != nil || must != nil {
			t.Errorf("Parts(%q): %v, %v beside an error", kind, kinds, must)
		}
	}
}

var noKinds = []string{"", "XX", "hd", "cwe", "Msg", "st", "nm", "ID0009", "ID003", "ID00003", "ID3", "id0003", "IS0003", "ID 003", "ID-003", "ID000A", "HD*", "ST*", " ST", "ST ", "ST ST", "IS ST ID", "0003", "SN", "ST\x00"}

func TestP801Table(t *testing.T) {
	numbers, values := tableNumbers, tableValues
	for n := -300; n < 20000; n++ {
		l, err := Table(n)
		var want []string
		if n >= 0 && n < 10000 {
			want = values[strconv.Itoa(10000 + n)[1:]]
		}
		if want != nil {
			if err != nil || !slices.Equal(l, want) || !slices.IsSorted(l) {
				t.Errorf("Table(%d): %v, %v, want %v", n, l, err, want)
			}
			continue
		}
		refused(t, "Table("+strconv.Itoa(n)+")", err, api.ErrTable, 0)
		if l != nil {
			t.Errorf("Table(%d): %v beside an error", n, l)
		}
	}
	for _, n := range []int{math.MaxInt, math.MinInt, 1 << 32, 1<<32 + 8} {
		_, err := Table(n)
		refused(t, "Table", err, api.ErrTable, 0)
	}
	if len(numbers) != 9 {
		t.Fatalf("the model has %d tables", len(numbers))
	}
}

// judged holds Text against the model.
func judged(t *testing.T, kind, text string) {
	t.Helper()
	err := Text(kind, text)
	want := modelText(kind, text)
	if text == "\"\"" {
		want = api.OK
	}
	if want == api.OK {
		if err != nil {
			t.Errorf("Text(%s, %q): %v", kind, text, err)
		}
		return
	}
	refused(t, "Text("+kind+", "+strconv.Quote(text)+")", err, want, 0)
}

func TestP802Plain(t *testing.T) {
	for _, c := range []struct {
		kind string
		ok   []string
		not  []string
	}{
		{"ST", []string{"", "a", "a|b^c\r\n\x00\xFF", strings.Repeat("x", 199), `\H\`, "é"}, []string{strings.Repeat("x", 200), strings.Repeat("é", 100)}},
		{"TX", []string{"", "a", strings.Repeat("x", 200), strings.Repeat("x", 8192), "\x00\n"}, nil},
		{"FT", []string{"", "a", strings.Repeat("x", 200), strings.Repeat("x", 8192), "\x00\n"}, nil},
		{"NM", []string{"0", "1", "+1", "-1", "0.0", "00.500", "-007.50", "1234567890123456", "+123456789012345", "-123456789012.34", "12345678901234.5"}, []string{"", "+", "-", ".", ".5", "5.", "-.5", "-5.", "1..2", "1.2.3", "1.2.", "++1", "+-1", "1+", "1e3", " 1", "1 ", "12345678901234567", "+1234567890123456", "12345678901234.56", "0000000000000000.1", "٣", "1,5", "0x1", "1_0"}},
		{"SI", []string{"0", "0000", "1", "9999", "0012"}, []string{"", "12345", "00000", "-1", "+1", "1.0", "a", "1 ", "٣"}},
		{"ID", []string{"a", "Z", "0", "9", "_", ".", "-", "a_1.-", "abcdefghijklmnopqrst"}, []string{"", "abcdefghijklmnopqrstu", "a b", "a/b", "a:b", "a@b", "a[b", "a`b", "a{b", "é", "a,b", "a+b", "a^b", "\x00"}},
		{"IS", []string{"a", "Z", "0", "9", "_", ".", "-", "a_1.-", "abcdefghijklmnopqrst"}, []string{"", "abcdefghijklmnopqrstu", "a b", "a/b", "é"}},
		{"DT", []string{"2026", "202602", "20260228", "20240229", "0001", "9999"}, []string{"", "20261", "20260229", "2026022812", "2026+0100", "0000", "202613", "x"}},
		{"TM", []string{"00", "12", "1230", "123059", "123059.1", "123059.1234", "12+0100", "1230-0530"}, []string{"", "24", "1260", "1", "123", "123059.", "123059.12345", "12+1401", "x", "20260101"}},
		{"TS", []string{"2026", "202602", "20260101", "2026010112", "20260101120000.1234+0100", "2026-0500"}, []string{"", "x", "20261", "2026-0000", "20260101120000.12345", "1230 "}},
	} {
		for _, text := range c.ok {
			if err := Text(c.kind, text); err != nil {
				t.Errorf("Text(%s, %q): %v", c.kind, text, err)
			}
		}
		for _, text := range c.not {
			refused(t, "Text("+c.kind+", "+strconv.Quote(text)+")", Text(c.kind, text), api.ErrType, 0)
		}
	}
}

func TestP802Lengths(t *testing.T) {
	for _, kind := range primitiveNames() {
		for _, n := range []int{0, 1, 3, 4, 5, 15, 16, 17, 19, 20, 21, 198, 199, 200, 201, 8191, 8192} {
			for _, fill := range []string{"1", "A", "x", "\"", "\x00", "\xFF"} {
				judged(t, kind, strings.Repeat(fill, n))
			}
		}
		for _, n := range []int{8193, 20000} {
			refused(t, kind+" too long", Text(kind, strings.Repeat("1", n)), api.ErrLong, 0)
		}
	}
}

func TestP802NoPrimitiveKindComesFirst(t *testing.T) {
	composite := slices.Clone(compositeNames)
	long := strings.Repeat("x", api.MaxMessage+1)
	for _, kind := range append(composite, noKinds...) {
		for _, text := range []string{"", "1", "\"\"", long} {
			refused(t, "Text("+kind+")", Text(kind, text), api.ErrKind, 0)
		}
	}
}

func TestP802Null(t *testing.T) {
	for _, kind := range primitiveNames() {
		if err := Text(kind, "\"\""); err != nil {
			t.Errorf("the null as %s: %v", kind, err)
		}
		for _, text := range []string{"\"", "\"\"\"", "\"\" ", " \"\"", "''", "\"\"\"\""} {
			judged(t, kind, text)
		}
	}
}

func TestP802EveryByte(t *testing.T) {
	for _, kind := range primitiveNames() {
		for b := range 256 {
			s := string([]byte{byte(b)})
			for _, text := range []string{s, "1" + s, s + "1", "1" + s + "1", "a" + s, "2026" + s, "12" + s} {
				judged(t, kind, text)
			}
		}
	}
}

func TestP802EveryTablesValues(t *testing.T) {
	numbers, values := tableNumbers, tableValues
	for _, n := range numbers {
		for _, other := range numbers {
			for _, v := range values[other] {
				for _, text := range []string{v, v + "x", v[:len(v)-1], strings.ToLower(v), v + " ", "-" + v, v + " " + v, strings.ReplaceAll(v, ".", "_"), v + ".", v[1:]} {
					judged(t, "ID"+n, text)
				}
				if err := Text("ID", v); err != nil {
					t.Errorf("Text(ID, %s): %v", v, err)
				}
			}
		}
		judged(t, "ID"+n, strings.Join(values[n], " "))
		judged(t, "ID"+n, strings.Join(values[n][:2], "."))
		judged(t, "ID"+n, "")
	}
}

func TestP802EveryShortText(t *testing.T) {
	var texts []string
	grow := []string{""}
	for range 5 {
		var next []string
		for _, g := range grow {
			for _, b := range "0179+-.A\"" {
				next = append(next, g+string(b))
			}
		}
		texts, grow = append(texts, next...), next
	}
	for _, kind := range []string{"NM", "SI", "ID", "TM", "DT"} {
		for _, text := range texts {
			judged(t, kind, text)
		}
	}
}
