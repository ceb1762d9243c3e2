package ack

import (
	"fmt"
	"math"
	"math/rand"
	"strings"
	"testing"

	"courier/api"
	"courier/types"
)

// change sets a field of an Ack.
type change func(a *api.Ack)

// isRight and isWrong are, by the numbers of the fields, changes that leave the example right and such that don't.
func isRight() map[int][]change {
	return map[int][]change{
		1: {
			func(a *api.Ack) { a.Marks = api.Marks{Field: '#', Comp: '$', Rep: '%', Esc: '!', Sub: '?'} },
			func(a *api.Ack) { a.Marks = api.Marks{Field: '.', Comp: '-', Rep: '_', Esc: '+', Sub: '"'} },
			func(a *api.Ack) { a.Marks = api.Marks{Field: '!', Comp: '/', Rep: ':', Esc: '`', Sub: '~'} },
		},
		2:  hds(func(a *api.Ack) *[3]string { return &a.From }, rightHDs(false)),
		3:  hds(func(a *api.Ack) *[3]string { return &a.FromPlace }, rightHDs(true)),
		4:  hds(func(a *api.Ack) *[3]string { return &a.To }, rightHDs(true)),
		5:  hds(func(a *api.Ack) *[3]string { return &a.ToPlace }, rightHDs(true)),
		6:  texts(func(a *api.Ack) *string { return &a.Stamp }, "00010101000000", "99991231235959", "20240229120000.1", "20240229120000.1234", "20240229120000+1400", "20240229120000.1234-0001"),
		7:  texts(func(a *api.Ack) *string { return &a.Event }, append(table(3), "")...),
		8:  texts(func(a *api.Ack) *string { return &a.Control }, "0", "9", "A", "Z", "a", "z", ".", "-", strings.Repeat("x", 20)),
		9:  texts(func(a *api.Ack) *string { return &a.Process }, table(103)...),
		10: texts(func(a *api.Ack) *string { return &a.Version }, table(104)...),
		11: {
			func(a *api.Ack) { a.Enhanced = true },
			func(a *api.Ack) { a.Enhanced = false },
		},
		12: texts(func(a *api.Ack) *string { return &a.Code }, "AE", "AR", "CE", "CR"),
		13: texts(func(a *api.Ack) *string { return &a.For }, "0", "9", "A", "Z", "a", "z", ".", "-", strings.Repeat("x", 18)),
		14: expects(-1, 0, 1, math.MaxInt32),
		15: {
			func(a *api.Ack) { a.Errors = nil },
			func(a *api.Ack) { a.Errors = []api.Finding{} },
			func(a *api.Ack) { a.Errors = make8() },
			func(a *api.Ack) { a.Code, a.Errors = "AA", nil },
			func(a *api.Ack) { a.Code, a.Errors = "CA", []api.Finding{} },
		},
	}
}

func isWrong() map[int][]change {
	return map[int][]change{
		1: {
			func(a *api.Ack) { a.Marks = api.Marks{} },
			func(a *api.Ack) { a.Marks.Field = 'A' },
			func(a *api.Ack) { a.Marks.Comp = ' ' },
			func(a *api.Ack) { a.Marks.Rep = 0x7F },
			func(a *api.Ack) { a.Marks.Esc = '0' },
			func(a *api.Ack) { a.Marks.Sub = '|' },
		},
		2: append(hds(func(a *api.Ack) *[3]string { return &a.From }, wrongHDs()),
			hds(func(a *api.Ack) *[3]string { return &a.From }, [][3]string{{}, {"", "x", "ISO"}, {"", "", "ISO"}})...),
		3:  hds(func(a *api.Ack) *[3]string { return &a.FromPlace }, wrongHDs()),
		4:  hds(func(a *api.Ack) *[3]string { return &a.To }, wrongHDs()),
		5:  hds(func(a *api.Ack) *[3]string { return &a.ToPlace }, wrongHDs()),
		6:  texts(func(a *api.Ack) *string { return &a.Stamp }, "", "2024", "202402", "20240229", "2024022912", "202402291200", "202402291200+0100", "20230229120000", "20240229120000.", "20240229120000.12345", "20240229120000-0000", "\"\"", " 20240229120000"),
		7:  texts(func(a *api.Ack) *string { return &a.Event }, "A05", "a01", "A01 ", "\"\"", "A", "A01A02", " "),
		8:  texts(func(a *api.Ack) *string { return &a.Control }, append(noControls(), strings.Repeat("x", 21))...),
		9:  texts(func(a *api.Ack) *string { return &a.Process }, "", "p", "X", "\"\"", "PT", "P "),
		10: texts(func(a *api.Ack) *string { return &a.Version }, "", "2", "2.6", "2.5.1.", "\"\"", "2.5.2", "9"),
		12: texts(func(a *api.Ack) *string { return &a.Code }, "", "aa", "AAA", "A", "CC", "\"\"", "ZZ", "CE "),
		13: texts(func(a *api.Ack) *string { return &a.For }, append(noControls(), strings.Repeat("x", 19))...),
		14: expects(-2, math.MinInt, math.MaxInt32+1, math.MaxInt),
		15: {
			func(a *api.Ack) { a.Code = "AA" },
			func(a *api.Ack) { a.Code = "CA" },
			func(a *api.Ack) { a.Errors = append(make8(), api.Finding{Code: 100}) },
			func(a *api.Ack) { a.Errors = []api.Finding{{}} },
			func(a *api.Ack) { a.Errors = append(make8()[:7], api.Finding{Code: 99}) },
			func(a *api.Ack) { a.Errors = append([]api.Finding{{Code: 104}}, make8()[:7]...) },
		},
	}
}

func texts(field func(a *api.Ack) *string, list ...string) []change {
	var all []change
	for _, text := range list {
		all = append(all, func(a *api.Ack) { *field(a) = text })
	}
	return all
}

func hds(field func(a *api.Ack) *[3]string, list [][3]string) []change {
	var all []change
	for _, v := range list {
		all = append(all, func(a *api.Ack) { *field(a) = v })
	}
	return all
}

func expects(list ...int) []change {
	var all []change
	for _, n := range list {
		all = append(all, func(a *api.Ack) { a.Expect = n })
	}
	return all
}

func table(n int) []string {
	list, err := types.Table(n)
	if err != nil {
		panic(err)
	}
	return list
}

func noControls() []string {
	return []string{"", " ", "a b", "a_b", "a|b", "a\r", "\"\"", "é", "a/b", "a:b", "a@b", "a[b", "a`b", "a{b", "a,b", "a\x00"}
}

func make8() []api.Finding {
	var list []api.Finding
	for i := range 8 {
		list = append(list, api.Finding{Code: 200 + i, Seg: "PID", Occur: i + 1})
	}
	return list
}

var long20 = strings.Repeat("aZ0_.-", 4)[:20]

func rightHDs(firstEmpty bool) [][3]string {
	every := make([]byte, 64)
	for i := range every {
		every[i] = byte(i * 4)
	}
	list := [][3]string{
		{"LAB"}, {long20, string(every), long20}, {"_", strings.Repeat("x", 64), "-"}, {"a", "", "b"}, {"a", "\"", "b"}, {"a", "\"\"\"", "b"},
		{"a", "|^~\\&\r\n", "b"}, {"a", "\\X22\\", "b"},
	}
	if firstEmpty {
		list = append(list, [3]string{}, [3]string{"", "x", "ISO"}, [3]string{"", "", "ISO"}, [3]string{"", strings.Repeat("\xFF", 64), long20})
	}
	return list
}

func wrongHDs() [][3]string {
	null := "\"\""
	return [][3]string{
		{null}, {"a", null, "b"}, {"a", "", null}, {null, null, null}, {null, "x", "y"},
		{long20 + "a"}, {"a b"}, {"a|b"}, {"a", "x", long20 + "a"}, {"a", "x", "b c"}, {"a", "", "b&c"}, {"a", "", "é"},
		{"a", strings.Repeat("x", 65), "b"}, {"a", strings.Repeat("x", 199), "b"}, {"a", strings.Repeat("x", 9000), "b"},
		{"a", "x", ""}, {"a", " ", ""}, {strings.Repeat("x", 9000)}, {"a", "", strings.Repeat("x", 9000)},
	}
}

func TestP1001EachField(t *testing.T) {
	for number, list := range isRight() {
		for i, turn := range list {
			a := example()
			turn(&a)
			if err := Right(a); err != nil {
				t.Errorf("field %d, right value %d: %v", number, i, err)
			}
		}
	}
	for number, list := range isWrong() {
		for i, turn := range list {
			a := example()
			turn(&a)
			refused(t, fmt.Sprintf("field %d, wrong value %d", number, i), Right(a), api.ErrAck, number)
		}
	}
	if Right(example()) != nil {
		t.Error("the example is refused")
	}
	refused(t, "nothing", Right(api.Ack{}), api.ErrAck, 1)
}

// TestP1001FirstIsTold: where two fields are not right the first one's number is told, whatever the two are.
func TestP1001FirstIsTold(t *testing.T) {
	wrong := isWrong()
	for i := 1; i <= 15; i++ {
		for j := i + 1; j <= 15; j++ {
			for _, x := range wrong[i] {
				for _, y := range wrong[j] {
					a := example()
					y(&a)
					x(&a)
					if at := modelRight(a); at != i {
						t.Fatalf("fields %d and %d: the model tells %d", i, j, at)
					}
					refused(t, fmt.Sprintf("fields %d and %d", i, j), Right(a), api.ErrAck, i)
				}
			}
		}
	}
}

// TestP1001Errors: which codes may have errors, and how many.
func TestP1001Errors(t *testing.T) {
	for _, code := range table(8) {
		for n := range 12 {
			a := example()
			a.Code, a.Errors = code, nil
			for range n {
				a.Errors = append(a.Errors, api.Finding{Code: 101, Seg: "PID", Occur: 1, Field: 3})
			}
			err := Right(a)
			if n == 0 || n <= 8 && code != "AA" && code != "CA" {
				if err != nil {
					t.Errorf("%s with %d errors: %v", code, n, err)
				}
			} else {
				refused(t, fmt.Sprintf("%s with %d errors", code, n), err, api.ErrAck, 15)
			}
		}
	}
}

func TestP1001Findings(t *testing.T) {
	full := api.Finding{Code: 207, Seg: "PID", Occur: 128, Field: 66, Rep: 32, Comp: 32, Sub: 16}
	with := func(turn func(f *api.Finding)) api.Finding {
		f := full
		turn(&f)
		return f
	}
	right := []api.Finding{
		full,
		with(func(f *api.Finding) { f.Sub = 0 }),
		with(func(f *api.Finding) { f.Comp, f.Sub = 0, 0 }),
		with(func(f *api.Finding) { f.Rep, f.Comp, f.Sub = 0, 0, 0 }),
		with(func(f *api.Finding) { f.Field, f.Rep, f.Comp, f.Sub = 0, 0, 0, 0 }),
		{Code: 100}, {Code: 207, Seg: "A00", Occur: 1}, {Code: 100, Seg: "Z99", Occur: 1, Field: 1, Rep: 1, Comp: 1, Sub: 1},
	}
	wrong := []api.Finding{
		with(func(f *api.Finding) { f.Occur = 129 }),
		with(func(f *api.Finding) { f.Field = 67 }),
		with(func(f *api.Finding) { f.Rep = 33 }),
		with(func(f *api.Finding) { f.Comp = 33 }),
		with(func(f *api.Finding) { f.Sub = 17 }),
		with(func(f *api.Finding) { f.Occur = -1 }),
		with(func(f *api.Finding) { f.Field = -1 }),
		with(func(f *api.Finding) { f.Rep = -1 }),
		with(func(f *api.Finding) { f.Comp = -1 }),
		with(func(f *api.Finding) { f.Sub = -1 }),
		with(func(f *api.Finding) { f.Occur = 0 }),
		with(func(f *api.Finding) { f.Field = 0 }),
		with(func(f *api.Finding) { f.Rep = 0 }),
		with(func(f *api.Finding) { f.Comp = 0 }),
		with(func(f *api.Finding) { f.Comp, f.Rep = 0, 0 }),
		with(func(f *api.Finding) { f.Seg = "" }),
		with(func(f *api.Finding) { f.Sub = math.MinInt }),
		{Code: 207, Seg: "PID"}, {Code: 207, Occur: 1}, {Code: 207, Field: 1}, {Code: 207, Rep: 1}, {Code: 207, Comp: 1}, {Code: 207, Sub: 1},
		{Code: 207, Seg: "PID", Field: 3},
	}
	for code := -1; code < 400; code++ {
		f := api.Finding{Code: code, Seg: "PID", Occur: 1}
		if code >= 100 && code <= 103 || code >= 200 && code <= 207 {
			right = append(right, f)
		} else {
			wrong = append(wrong, f)
		}
	}
	for _, name := range []string{"pid", "PI", "PIDX", "1PI", "P D", "PId", "PI-", "\"\"", "P", " ", "PI\x00", "PÉ"} {
		wrong = append(wrong, api.Finding{Code: 207, Seg: name, Occur: 1}, api.Finding{Code: 207, Seg: name})
	}
	for _, name := range []string{"PID", "ZZZ", "AAA", "A09", "P1D"} {
		right = append(right, api.Finding{Code: 207, Seg: name, Occur: 1})
	}
	for _, f := range right {
		a := example()
		a.Errors = []api.Finding{f}
		if err := Right(a); err != nil || !modelFinding(f) {
			t.Errorf("%v: %v", f, err)
		}
	}
	for _, f := range wrong {
		a := example()
		a.Errors = []api.Finding{f}
		refused(t, fmt.Sprint(f), Right(a), api.ErrAck, 15)
		a.Errors = append(make8()[:7], f)
		refused(t, fmt.Sprint("behind others ", f), Right(a), api.ErrAck, 15)
	}
}

// TestP1001Random holds right ones, and such with some fields changed, against the model.
func TestP1001Random(t *testing.T) {
	r := rand.New(rand.NewSource(1001))
	wrong, right := isWrong(), isRight()
	for range 20000 {
		a := randomAck(r)
		if at := modelRight(a); at != 0 {
			t.Fatalf("%+v: the model refuses field %d", a, at)
		}
		for range r.Intn(4) {
			pool := wrong
			if r.Intn(3) > 0 {
				pool = right
			}
			if list := pool[1+r.Intn(15)]; len(list) > 0 {
				pick(r, list...)(&a)
			}
		}
		if at := modelRight(a); at != 0 {
			refused(t, fmt.Sprintf("%+v", a), Right(a), api.ErrAck, at)
		} else if err := Right(a); err != nil {
			t.Errorf("%+v: %v", a, err)
		}
	}
}
