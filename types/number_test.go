package types

import (
	"math"
	"math/big"
	"math/rand"
	"strconv"
	"strings"
	"testing"

	"courier/api"
)

func TestP806Decimal(t *testing.T) {
	for text, want := range map[string]api.Number{
		"-007.50":          {Neg: true, Digits: "75", Scale: 1},
		"0.050":            {Digits: "5", Scale: 2},
		"+0":               {Digits: "0"},
		"-0.0":             {Digits: "0"},
		"-0":               {Digits: "0"},
		"0":                {Digits: "0"},
		"0000000000000000": {Digits: "0"},
		"0.00000000000000": {Digits: "0"},
		"100":              {Digits: "100"},
		"100.0":            {Digits: "100"},
		"+100.10":          {Digits: "1001", Scale: 1},
		"-10":              {Neg: true, Digits: "10"},
		"0010":             {Digits: "10"},
		"1.0":              {Digits: "1"},
		"1234567890123456": {Digits: "1234567890123456"},
		"-123456789012345": {Neg: true, Digits: "123456789012345"},
		"0.00000000000001": {Digits: "1", Scale: 14},
		"-0.0000000000001": {Neg: true, Digits: "1", Scale: 13},
		"9.99999999999999": {Digits: "999999999999999", Scale: 14},
		"000.1000":         {Digits: "1", Scale: 1},
		"10.01":            {Digits: "1001", Scale: 2},
	} {
		if n, err := Decimal(text); err != nil || n != want {
			t.Errorf("Decimal(%q): %v, %v, want %v", text, n, err, want)
		}
	}
	for _, text := range []string{"", "\"\"", ".5", "5.", "-.5", "-5.", "1e3", "1..2", "1.2.3", "++1", "-+1", "1-", " 1", "1 ", "+", "-", ".", "12345678901234567", "-1234567890123456", "0.000000000000001", "٣", strings.Repeat("1", 8192), strings.Repeat("1", 8193)} {
		n, err := Decimal(text)
		refused(t, "Decimal("+strconv.Quote(text)+")", err, api.ErrType, 0)
		if n != (api.Number{}) {
			t.Errorf("Decimal(%q): %v beside an error", text, n)
		}
	}
}

// rat is a number's value, worked out by fractions.
func rat(t *testing.T, n api.Number) *big.Rat {
	t.Helper()
	digits, ok := new(big.Int).SetString(n.Digits, 10)
	if !ok {
		t.Fatalf("%v has no digits", n)
	}
	if n.Neg {
		digits.Neg(digits)
	}
	ten := new(big.Int).Exp(big.NewInt(10), big.NewInt(int64(n.Scale)), nil)
	return new(big.Rat).SetFrac(digits, ten)
}

// tells holds Decimal and Print of a text against fractions: the value, the least scale, and the way back.
func tells(t *testing.T, text string) {
	t.Helper()
	n, err := Decimal(text)
	if len(text) > 16 || !patterns["NM"].MatchString(text) {
		refused(t, "Decimal("+text+")", err, api.ErrType, 0)
		return
	}
	want, _ := new(big.Rat).SetString(text)
	if err != nil || rat(t, n).Cmp(want) != 0 || n.Scale < 0 || n.Neg != (want.Sign() < 0) {
		t.Errorf("Decimal(%q): %v, %v", text, n, err)
		return
	}
	if n.Scale > 0 && strings.HasSuffix(n.Digits, "0") || len(n.Digits) > 1 && n.Digits[0] == '0' {
		t.Errorf("Decimal(%q): %v", text, n)
	}
	s, err := Print(n)
	if shortest := want.FloatString(n.Scale); err != nil || s != shortest {
		t.Errorf("Print of Decimal(%q): %q, %v, want %q", text, s, err, shortest)
	}
	if back, err := Decimal(s); err != nil || back != n {
		t.Errorf("Decimal(%q): %v, %v, want %v", s, back, err, n)
	}
}

func TestP806EveryShortText(t *testing.T) {
	grow := []string{""}
	for range 7 {
		var next []string
		for _, g := range grow {
			tells(t, g)
			for _, b := range "+-.012" {
				next = append(next, g+string(b))
			}
		}
		grow = next
	}
}

// randomNumber is a text of digits, near 16 bytes half the time.
func randomNumber(rnd *rand.Rand) string {
	n := 1 + rnd.Intn(8)
	if rnd.Intn(2) == 0 {
		n = 12 + rnd.Intn(6)
	}
	text := []string{"", "+", "-"}[rnd.Intn(3)]
	point := rnd.Intn(2 * n)
	for i := range n {
		if i == point && i > 0 {
			text += "."
		}
		text += string("0000123459"[rnd.Intn(10)])
	}
	return text
}

func TestP806RandomTexts(t *testing.T) {
	rnd := rand.New(rand.NewSource(806))
	for range 40000 {
		tells(t, randomNumber(rnd))
	}
}

func TestP807Print(t *testing.T) {
	for want, n := range map[string]api.Number{
		"-7.5":             {Neg: true, Digits: "75", Scale: 1},
		"0.05":             {Digits: "5", Scale: 2},
		"0.5":              {Digits: "5", Scale: 1},
		"-0.5":             {Neg: true, Digits: "5", Scale: 1},
		"0":                {Digits: "0"},
		"10":               {Digits: "10"},
		"-100":             {Neg: true, Digits: "100"},
		"1234567890123456": {Digits: "1234567890123456"},
		"-123456789012345": {Neg: true, Digits: "123456789012345"},
		"0.00000000000001": {Digits: "1", Scale: 14},
		"-0.0000000000001": {Neg: true, Digits: "1", Scale: 13},
		"12345678901234.5": {Digits: "123456789012345", Scale: 1},
		"0.12345678901234": {Digits: "12345678901234", Scale: 14},
		"1.02":             {Digits: "102", Scale: 2},
	} {
		if s, err := Print(n); err != nil || s != want {
			t.Errorf("Print(%v): %q, %v, want %q", n, s, err, want)
		}
	}
}

// notRight are numbers that Decimal tells for no text, each for one reason.
var notRight = []api.Number{
	{}, {Neg: true}, {Scale: 1}, {Digits: "05"}, {Digits: "00"}, {Digits: "10", Scale: 1}, {Digits: "100", Scale: 2}, {Digits: "100", Scale: 3},
	{Neg: true, Digits: "0"}, {Digits: "0", Scale: 1}, {Digits: "0", Scale: 2}, {Digits: "1", Scale: -1}, {Digits: "0", Scale: -1},
	{Digits: "1", Scale: 15}, {Neg: true, Digits: "1", Scale: 14}, {Digits: "1", Scale: 16}, {Digits: "1", Scale: 17}, {Digits: "1", Scale: 1000},
	{Digits: "1", Scale: math.MaxInt}, {Digits: "1", Scale: math.MinInt}, {Digits: "1", Scale: math.MaxInt - 1},
	{Digits: "12345678901234567"}, {Neg: true, Digits: "1234567890123456"}, {Digits: "1234567890123456", Scale: 1}, {Digits: "123456789012345", Scale: 15},
	{Neg: true, Digits: "123456789012345", Scale: 1},
	{Digits: "1.5"}, {Digits: "1.5", Scale: 1}, {Digits: "-5"}, {Digits: "+5"}, {Neg: true, Digits: "-5"}, {Digits: "-5", Scale: 1}, {Digits: "5."}, {Digits: ".5"}, {Digits: ".5", Scale: 1}, {Digits: "5.", Scale: 1},
	{Digits: "a"}, {Digits: "1a"}, {Digits: " 1"}, {Digits: "1 "}, {Digits: "\"\""}, {Digits: "٣"}, {Digits: "1\x00"}, {Digits: "1/"}, {Digits: "1:"}, {Digits: "\xFF"},
	{Digits: strings.Repeat("1", 9000)}, {Digits: strings.Repeat("0", 9000), Scale: 16}, {Digits: "+", Scale: 0}, {Digits: "-1", Scale: 2},
}

func TestP807Wrong(t *testing.T) {
	one := api.Number{Digits: "1"}
	for _, n := range notRight {
		s, err := Print(n)
		refused(t, "Print", err, api.ErrNumber, 0)
		if s != "" {
			t.Errorf("Print(%v): %q beside an error", n, s)
		}
		for _, other := range []api.Number{one, {}} {
			c, err := Compare(n, other)
			refused(t, "Compare with the first not right", err, api.ErrNumber, 0)
			if c != 0 {
				t.Errorf("Compare: %d beside an error", c)
			}
		}
		c, err := Compare(one, n)
		refused(t, "Compare with the second not right", err, api.ErrNumber, 1)
		if c != 0 {
			t.Errorf("Compare: %d beside an error", c)
		}
	}
}

// TestP807EverySmallNumber: a number is right just if some short text tells it.
func TestP807EverySmallNumber(t *testing.T) {
	told := map[api.Number]bool{}
	grow := []string{""}
	for range 7 {
		var next []string
		for _, g := range grow {
			if n, err := Decimal(g); err == nil {
				told[n] = true
			}
			for _, b := range "-.01" {
				next = append(next, g+string(b))
			}
		}
		grow = next
	}
	for _, digits := range []string{"", "0", "1", "00", "01", "10", "11", "000", "001", "010", "011", "100", "101", "110", "111", "-1", ".", "1.1"} {
		for scale := -3; scale < 4; scale++ {
			for _, neg := range []bool{false, true} {
				n := api.Number{Neg: neg, Digits: digits, Scale: scale}
				if _, err := Print(n); (err == nil) != told[n] {
					t.Errorf("Print(%v): %v, told %v", n, err, told[n])
				}
			}
		}
	}
}

// ordered holds Compare against fractions, both ways.
func ordered(t *testing.T, a, b api.Number) {
	t.Helper()
	want := rat(t, a).Cmp(rat(t, b))
	c, err := Compare(a, b)
	d, back := Compare(b, a)
	if err != nil || back != nil || c != want || d != -want || (c == 0) != (a == b) {
		t.Errorf("Compare(%v, %v): %d, %v; back %d, %v; want %d", a, b, c, err, d, back, want)
	}
}

func TestP807Compare(t *testing.T) {
	texts := []string{"0", "1", "-1", "0.5", "-0.5", "0.05", "-7.5", "7.5", "7.50", "+7.5", "10", "9", "-10", "-9", "9.9", "9.09", "100", "99.99", "1234567890123456", "1234567890123457", "-123456789012345", "-123456789012346", "0.00000000000001", "0.00000000000002", "-0.0000000000001", "12345678901234.5", "9999999999999999", "0.99999999999999", "1.00000000000001", "0.1", "0.10", "0.09", "2", "19", "20.1", "-20.1", "-20"}
	for _, a := range texts {
		for _, b := range texts {
			x, err := Decimal(a)
			y, wrong := Decimal(b)
			if err != nil || wrong != nil {
				t.Fatalf("%s, %s: %v, %v", a, b, err, wrong)
			}
			ordered(t, x, y)
		}
	}
}

func TestP807RandomCompare(t *testing.T) {
	rnd := rand.New(rand.NewSource(807))
	var last api.Number
	last.Digits = "0"
	for range 40000 {
		n, err := Decimal(randomNumber(rnd))
		if err != nil {
			continue
		}
		ordered(t, n, last)
		if i := rnd.Intn(len(n.Digits)); n.Digits[i] < '9' && (i > 0 || n.Digits[i] > '0') {
			near := n
			near.Digits = n.Digits[:i] + string(n.Digits[i]+1) + n.Digits[i+1:]
			ordered(t, n, near)
		}
		last = n
	}
}
