package ack

import (
	"errors"
	"fmt"
	"math/rand"
	"strings"
	"testing"

	"courier/api"
	"courier/tree"
)

func TestP1004Is(t *testing.T) {
	for _, c := range []struct {
		names string
		want  bool
	}{
		{"", false}, {"MSH", false}, {"MSH MSA", true}, {"MSA", true}, {"MSA MSH", true}, {"MSH PID MSA", true}, {"MSH MSA MSA", true},
		{"MSH MSB", false}, {"MSH msa", false}, {"MSH MSAX", false}, {"MSH MS", false}, {"MSH ERR", false}, {"x MSA", true},
	} {
		var m api.Message
		for _, name := range strings.Fields(c.names) {
			m.Segs = append(m.Segs, api.Seg{Name: name})
		}
		if got := Is(m); got != c.want {
			t.Errorf("%s without marks: %v", c.names, got)
		}
		m.Marks = common
		if got := Is(m); got != c.want {
			t.Errorf("%s: %v", c.names, got)
		}
	}
	many := api.Message{Segs: append(make([]api.Seg, 1000), api.Seg{Name: "MSA"})}
	if !Is(many) || Is(api.Message{Segs: many.Segs[:1000]}) {
		t.Error("a message of too many segments")
	}
	bad := message(t, "|LAB", "MSA|AA|x")
	bad.Segs[1].Fields[0].Reps[0].Comps[0].Subs[0] = "a|b"
	if !Is(bad) {
		t.Error("an MSA with a text that may not stand on the wire")
	}
}

// wrongMessages are such that tree.Valid refuses; each has an MSA that is right.
func wrongMessages(t *testing.T) map[string]api.Message {
	sound := func() api.Message { return message(t, "|LAB", "MSA|AA|x") }
	all := map[string]api.Message{}
	for name, turn := range map[string]func(m *api.Message){
		"no marks":                func(m *api.Message) { m.Marks = api.Marks{} },
		"a mark twice":            func(m *api.Message) { m.Marks.Sub = '|' },
		"no MSH":                  func(m *api.Message) { m.Segs = m.Segs[1:] },
		"two MSHs":                func(m *api.Message) { m.Segs = append(m.Segs, m.Segs[0]) },
		"a name that is none":     func(m *api.Message) { m.Segs = append(m.Segs, api.Seg{Name: "ab"}) },
		"129 segments":            func(m *api.Message) { m.Segs = append(m.Segs, manySegs(127)...) },
		"65 fields":               func(m *api.Message) { m.Segs[1].Fields = append(m.Segs[1].Fields, make([]api.Field, 63)...) },
		"33 empty repetitions":    func(m *api.Message) { m.Segs[0].Fields[0].Reps = make([]api.Rep, 33) },
		"33 empty components":     func(m *api.Message) { m.Segs[0].Fields[0].Reps[0].Comps = make([]api.Comp, 33) },
		"17 empty subcomponents":  func(m *api.Message) { m.Segs[0].Fields[0].Reps[0].Comps[0].Subs = make([]string, 17) },
		"a mark in a sub":         func(m *api.Message) { m.Segs[0].Fields[0].Reps[0].Comps[0].Subs[0] = "a^b" },
		"an escape that is none":  func(m *api.Message) { m.Segs[0].Fields[0].Reps[0].Comps[0].Subs[0] = `\Q\` },
		"a byte that isn't plain": func(m *api.Message) { m.Segs[1].Fields[1].Reps[0].Comps[0].Subs[0] = "\t" },
	} {
		m := sound()
		turn(&m)
		all[name] = m
	}
	all["nothing"] = api.Message{}
	all["no segment"] = api.Message{Marks: common}
	return all
}

func manySegs(n int) []api.Seg {
	var list []api.Seg
	for range n {
		list = append(list, api.Seg{Name: "ZZ1"})
	}
	return list
}

func TestP1005NoMessage(t *testing.T) {
	for name, m := range wrongMessages(t) {
		a, err := Read(m)
		f, ok := err.(*api.Fault)
		if !ok || f == nil || f.Layer != "ack" || f.Code != api.ErrForm || f.At != 0 || !errors.Is(err, api.ErrForm) {
			t.Errorf("%s: %v", name, err)
			continue
		}
		_, under := tree.Valid(m)
		if below, ok := f.Under.(*api.Fault); !ok || *below != *under.(*api.Fault) || below.Layer != "tree" {
			t.Errorf("%s: under it %v, want %v", name, f.Under, under)
		}
		if !same(a, api.Ack{}) {
			t.Errorf("%s: %+v beside an error", name, a)
		}
	}
}

func TestP1005NoAnswer(t *testing.T) {
	for _, lines := range []string{"", "|LAB", "|LAB\rERR|||207", "|LAB\rMSB|AA|x", "\rZZ1|AA|x"} {
		a, err := Read(message(t, lines))
		refused(t, lines, err, api.ErrUnknown, 0)
		if !same(a, api.Ack{}) {
			t.Errorf("%s: %+v beside an error", lines, a)
		}
	}
	wrong := message(t, "|LAB", "ZZ1|x")
	wrong.Segs[1].Fields[0].Reps[0].Comps[0].Subs[0] = "|"
	if _, err := Read(wrong); !errors.Is(err, api.ErrForm) {
		t.Errorf("no message and no MSA: %v", err)
	}
}

// TestP1005Answer: what is asked of an MSA. 0 is a text that is read.
func TestP1005Answer(t *testing.T) {
	for line, at := range map[string]int{
		"MSA|AA|x": 0, "MSA|AE|x": 0, "MSA|AR|x": 0, "MSA|CA|x": 0, "MSA|CE|x": 0, "MSA|CR|x": 0,
		"MSA": 12, "MSA||x": 12, "MSA|ZZ|x": 12, "MSA|aa|x": 12, "MSA|AAA|x": 12, "MSA|A|x": 12, "MSA|\"\"|x": 12, "MSA|\\H\\|x": 12,
		"MSA|AA&|x": 0, "MSA|AA^^|x": 0, "MSA|AA~|x": 0, "MSA|AA&x|x": 12, "MSA|AA^x|x": 12, "MSA|AA~AA|x": 12, "MSA|AA&&\\H\\|x": 12, "MSA|^AA|x": 12, "MSA|~AA|x": 12, "MSA|&AA|x": 12,
		"MSA|A\\H\\A|x": 0, "MSA|\\X4141\\|x": 0, "MSA|A\\X41\\|x": 0, "MSA|A\\.br\\A|x": 12,
		"MSA|AA": 13, "MSA|AA|": 13, "MSA|AA|x y": 13, "MSA|AA|x_y": 13, "MSA|AA|\"\"": 13, "MSA|AA|\\H\\": 13, "MSA|AA|x^y": 13, "MSA|AA|x&y": 13, "MSA|AA|x~y": 13, "MSA|AA|^x": 13, "MSA|AA|x^\\N\\": 13,
		"MSA|AA|x^^": 0, "MSA|AA|\\Z1\\x": 0, "MSA|AA|\\X2E\\": 0, "MSA|AA|abcdefghijklmno.-9": 0, "MSA|AA|abcdefghijklmno.-90": 13, "MSA|AA|x\\F\\": 13,
		"MSA|AA|x||": 0, "MSA|AA|x||\\H\\": 0, "MSA|AA|x||\\Zxyz\\\\N\\": 0, "MSA|AA|x||0": 0, "MSA|AA|x||1": 0, "MSA|AA|x||10": 0, "MSA|AA|x||2147483647": 0, "MSA|AA|x||\\X31\\2": 0,
		"MSA|AA|x||2147483648": 14, "MSA|AA|x||012": 14, "MSA|AA|x||00": 14, "MSA|AA|x||-1": 14, "MSA|AA|x||-0": 14, "MSA|AA|x||+1": 14, "MSA|AA|x|| 1": 14, "MSA|AA|x||1 ": 14, "MSA|AA|x||1_0": 14, "MSA|AA|x||0x1": 14, "MSA|AA|x||1.0": 14,
		"MSA|AA|x||\"\"": 14, "MSA|AA|x||x": 14, "MSA|AA|x||1^2": 14, "MSA|AA|x||^1": 14, "MSA|AA|x||~1": 14, "MSA|AA|x||1&\\H\\": 14, "MSA|AA|x||^\\H\\": 14, "MSA|AA|x||1~": 0, "MSA|AA|x||99999999999999999999": 14, "MSA|AA|x||18446744073709551617": 14, "MSA|AA|x||\xD9\xA1": 14,
		"MSA|ZZ|x y||012": 12, "MSA|ZZ|x||012": 12, "MSA|ZZ|x y": 12, "MSA|AA|x y||012": 13,
		"MSA|AA|x\rMSA|ZZ|x": 0, "MSA|ZZ|x\rMSA|AA|x": 12, "ERR\rMSA|AA|x||x\rMSA|AA|x": 14, "ZZ1|AA|x\rMSA|AA": 13,
		"MSA|AA|x|ok|1|y|z": 0, "MSA|AA|x|\"\"": 0,
	} {
		m := message(t, "|LAB", line)
		a, err := Read(m)
		if at > 0 {
			refused(t, line, err, api.ErrAck, at)
			if !same(a, api.Ack{}) {
				t.Errorf("%s: %+v beside an error", line, a)
			}
		} else if err != nil {
			t.Errorf("%s: %v", line, err)
		}
		want, model := modelRead(m)
		if model != at && !(at == 0 && model == -1) {
			t.Errorf("%s: the model tells %d, want %d", line, model, at)
		}
		if !same(a, want) {
			t.Errorf("%s: %+v, want %+v", line, a, want)
		}
	}
	for line, want := range map[string]int{"": -1, "||": -1, "||\\H\\": -1, "||0": 0, "||1": 1, "||12~": 12, "||2147483647": api.MaxNumber, "||\\X31\\2": 12} {
		a, err := Read(message(t, "|LAB", "MSA|CR|id.-9"+line))
		if err != nil || a.Code != "CR" || a.For != "id.-9" || a.Expect != want || a.Marks != common || a.From != [3]string{"LAB"} {
			t.Errorf("%s: %+v, %v, want %d", line, a, err, want)
		}
	}
}

// TestP1005Heads: what is read of an MSH, one field at a time; the others are as they stood.
func TestP1005Heads(t *testing.T) {
	whole := []string{3: "LAB^1^ISO", 4: "a", 5: "b", 6: "^^c", 7: "20240229120000", 8: "", 9: "ACK^A01^ACK", 10: "C7", 11: "P", 12: "2.5.1", 13: "", 14: "", 15: "", 16: ""}
	want := api.Ack{
		Marks: common, From: [3]string{"LAB", "1", "ISO"}, FromPlace: [3]string{"a"}, To: [3]string{"b"}, ToPlace: [3]string{"", "", "c"},
		Stamp: "20240229120000", Event: "A01", Control: "C7", Process: "P", Version: "2.5.1", Code: "AA", For: "x", Expect: -1,
	}
	check := func(field int, wire string, turn change) {
		t.Helper()
		fields := append([]string{}, whole...)
		fields[field] = wire
		m := message(t, "|"+strings.Join(fields[3:], "|"), "MSA|AA|x")
		w := want
		turn(&w)
		if a, err := Read(m); err != nil || !same(a, w) {
			t.Errorf("MSH-%d %s: %+v, %v, want %+v", field, wire, a, err, w)
		}
		if a, at := modelRead(m); at != -1 || !same(a, w) {
			t.Errorf("MSH-%d %s: the model: %+v, want %+v", field, wire, a, w)
		}
	}
	for field, part := range map[int]func(a *api.Ack) *[3]string{
		3: func(a *api.Ack) *[3]string { return &a.From },
		4: func(a *api.Ack) *[3]string { return &a.FromPlace },
		5: func(a *api.Ack) *[3]string { return &a.To },
		6: func(a *api.Ack) *[3]string { return &a.ToPlace },
	} {
		for wire, v := range someHDs() {
			check(field, wire, func(a *api.Ack) { *part(a) = v })
		}
	}
	for field, cases := range map[int]map[string]string{
		7: {"": "", "20240229120000.1234+0100": "20240229120000.1234+0100", "2024": "", "\"\"": "", "20240229\\X31\\20000": "20240229120000", "20240229120000^D": "", "20240229120000~": "20240229120000",
			"20240229120000&\\H\\": "", "202402291200": "", "~20240229120000": "", "\\H\\": "", "20240229\\H\\120000": "20240229120000"},
		10: {"": "", "abcdefghijklmnopqr.-": "abcdefghijklmnopqr.-", "abcdefghijklmnopqr.-1": "", "a b": "", "a^b": "", "a\\N\\b": "ab", "\\H\\": "", "\"\"": "", "a&b": "", "a~b": "", "a^^&": "a"},
		11: {"": "", "D": "D", "T": "T", "P^T": "", "P^": "P", "\\X50\\": "P", "p": "", "\"\"": "", "P&\\H\\": "", "\\H\\": ""},
		12: {"": "", "2.3.1": "2.3.1", "2.6": "", "2.5.1^USA": "", "2.5.1&x": "", "2\\X2E\\4": "2.4", "\"\"": "", "2.5~2.5": ""},
		9: {"": "", "ACK": "", "^A02": "A02", "ADT^R01^x^y~z": "R01", "ACK^A05": "", "ACK^\"\"": "", "ACK^A01&": "A01", "ACK^A01&x": "", "ACK^A01&\\H\\": "", "ACK^&A01": "", "ACK&A^A01": "A01", "~ACK^A01": "",
			"x^A\\H\\01": "A01", "ACK^\\H\\": "", "ACK^\\X413038\\": "A08", "ACK^^A01": "", "A01": ""},
	} {
		for wire, text := range cases {
			check(field, wire, func(a *api.Ack) {
				*map[int]*string{7: &a.Stamp, 9: &a.Event, 10: &a.Control, 11: &a.Process, 12: &a.Version}[field] = text
			})
		}
	}
	for _, field := range []int{15, 16} {
		for wire, enhanced := range map[string]bool{"": false, "~^&": false, "NE": true, "AL": true, "x y": true, "\\H\\": true, "^\\H\\": true, "\"\"": true, "~x": true} {
			check(field, wire, func(a *api.Ack) { a.Enhanced = enhanced })
		}
	}
	check(14, "x", func(a *api.Ack) {})
	check(13, "1", func(a *api.Ack) {})
}

// someHDs are fields on the wire, and the HD that is read in them.
func someHDs() map[string][3]string {
	long := strings.Repeat("x", 64)
	return map[string][3]string{
		"": {}, "~": {}, "^^": {}, "LAB": {"LAB"}, "LAB^^": {"LAB"}, "LAB&^&^&": {"LAB"}, "LAB~": {"LAB"}, "LAB^^^": {"LAB"},
		"LAB^a\\H\\b^ISO": {"LAB", "ab", "ISO"}, "LAB^a\\.br\\b^ISO": {"LAB", "a\nb", "ISO"}, "LAB^\\X0D\\\\F\\\\.sp2\\^ISO": {"LAB", "\r|\n\n\n", "ISO"},
		"^x^ISO": {"", "x", "ISO"}, "^^ISO": {"", "", "ISO"}, "L\\X41\\B": {"LAB"}, "\\H\\LAB\\N\\": {"LAB"}, "\\H\\": {}, "\\H\\^\\N\\^\\Z\\": {}, "\\H\\^x^ISO": {"", "x", "ISO"},
		"LAB^\\H\\": {"LAB"}, "LAB^^\\H\\": {"LAB"}, "LAB^x^\\H\\": {}, "LAB^^^\\H\\": {}, "LAB&\\H\\": {}, "LAB^x&\\H\\^ISO": {}, "LAB~\\H\\": {},
		"LAB^x": {}, "LAB^x^ISO^y": {}, "LAB&x": {}, "LAB^x&y^ISO": {}, "&LAB": {}, "~LAB": {}, "LAB~LAB": {}, "LAB^\\.br\\^ISO": {"LAB", "\n", "ISO"},
		"\"\"": {}, "LAB^\"\"^ISO": {}, "LAB^^\"\"": {}, "\\X2222\\": {}, "LAB^\\X22\\\"^ISO": {}, "LAB^\"\\H\\\"^ISO": {}, "LAB^\"^ISO": {"LAB", "\"", "ISO"}, "LAB^\"\"\"^ISO": {"LAB", "\"\"\"", "ISO"},
		"LAB^" + long + "^ISO": {"LAB", long, "ISO"}, "LAB^" + long + "x^ISO": {}, "LAB^" + long[:63] + "\\F\\^ISO": {"LAB", long[:63] + "|", "ISO"}, "LAB^" + long[:63] + "\\.sp1\\^ISO": {},
		"LAB^\\.sk999\\^ISO": {}, "LAB^\\.sk64\\^ISO": {"LAB", strings.Repeat(" ", 64), "ISO"}, "LAB^\\.sp999\\\\.sp999\\\\.sp999\\\\.sp999\\\\.sp999\\\\.sp999\\\\.sp999\\\\.sp999\\\\.sp999\\^ISO": {},
		"abcdefghijklmnopq_.-": {"abcdefghijklmnopq_.-"}, "abcdefghijklmnopq_.-x": {}, "a b": {}, "LAB^x^abcdefghijklmnopq_.-": {"LAB", "x", "abcdefghijklmnopq_.-"}, "LAB^x^abcdefghijklmnopq_.-x": {}, "LAB^^a b": {},
	}
}

func TestP1005Findings(t *testing.T) {
	f := func(code int, seg string, n ...int) []api.Finding {
		n = append(n, make([]int, 5)...)
		return []api.Finding{{Code: code, Seg: seg, Occur: n[0], Field: n[1], Rep: n[2], Comp: n[3], Sub: n[4]}}
	}
	for line, want := range map[string][]api.Finding{
		"ERR|||207^^HL70357|E": f(207, ""), "ERR||MSH^1^13^1|207": f(207, "MSH", 1, 13, 1), "ERR|||100": f(100, ""), "ERR|||103": f(103, ""), "ERR|||200^x^y~z": f(200, ""),
		"ERR": nil, "ERR|207": nil, "ERR|||99": nil, "ERR|||104": nil, "ERR|||199": nil, "ERR|||208": nil, "ERR|||0207": nil, "ERR|||20": nil, "ERR|||0": nil, "ERR|||+207": nil, "ERR|||\"\"": nil, "ERR|||\\H\\": nil,
		"ERR|||\\X32\\0\\H\\7": f(207, ""), "ERR|||207&x": nil, "ERR|||207&\\H\\": nil, "ERR|||&207": nil, "ERR|||^207": nil, "ERR|||~207": nil, "ERR|||207&~x": f(207, ""), "ERR|||x~207": nil, "ERR||||207": nil, "ERR||PID^1": nil,
		"ERR|x|PID^1|101|W|y|z": f(101, "PID", 1), "ERR||PID^128^66^32^32^16|101": f(101, "PID", 128, 66, 32, 32, 16),
		"ERR||PID^129|101": nil, "ERR||PID^1^67|101": nil, "ERR||PID^1^1^33|101": nil, "ERR||PID^1^1^1^33|101": nil, "ERR||PID^1^1^1^1^17|101": nil, "ERR||PID^1^1^1^1^1^1|101": nil, "ERR||PID^1^1^1^1^1^\\H\\|101": nil,
		"ERR||PID^1^1^1^1^1^^&~|101": f(101, "PID", 1, 1, 1, 1, 1), "ERR||PID^1~PID^2|101": nil, "ERR||PID^1~\\H\\|101": nil, "ERR||PID^1~|101": f(101, "PID", 1), "ERR||~PID^1|101": nil, "ERR||PID&x^1|101": nil, "ERR||PID^1&\\H\\|101": nil, "ERR||PID^1&|101": f(101, "PID", 1), "ERR||PID^&1|101": nil,
		"ERR||PID^1^3&x|101": nil, "ERR||PID^1^&3|101": nil, "ERR||PID^1^3^1^1&\\H\\|101": nil, "ERR||PID^1^3^1^1^1&x|101": nil, "ERR||&PID|101": nil, "ERR||&\\H\\|101": nil,
		"ERR||PID|101": nil, "ERR||PID^0|101": nil, "ERR||^1|101": nil, "ERR||^0|101": f(101, ""), "ERR||^0^0^0^0^0|101": f(101, ""), "ERR||\\H\\|101": f(101, ""), "ERR||\\H\\^\\N\\^^^^\\Z\\|101": f(101, ""), "ERR||^^1|101": nil,
		"ERR||PID^1^0|101": f(101, "PID", 1), "ERR||PID^1^0^0^0^0|101": f(101, "PID", 1), "ERR||PID^1^^^^|101": f(101, "PID", 1), "ERR||PID^1^^^^0|101": f(101, "PID", 1), "ERR||PID^1^\\H\\^0^|101": f(101, "PID", 1),
		"ERR||PID^1^0^1|101": nil, "ERR||PID^1^^1|101": nil, "ERR||PID^1^1^1^0^1|101": nil, "ERR||PID^1^1^\\H\\^1|101": nil,
		"ERR||PID^01|101": nil, "ERR||PID^1^00|101": nil, "ERR||PID^+1|101": nil, "ERR||PID^-1|101": nil, "ERR||PID^1^x|101": nil, "ERR||PID^1^1^1^1^x|101": nil, "ERR||PID^1^\"\"|101": nil, "ERR||\"\"^1|101": nil, "ERR||\"\"|101": nil, "ERR||PID^1.0|101": nil, "ERR||PID^ 1|101": nil,
		"ERR||pid^1|101": nil, "ERR||PIDX^1|101": nil, "ERR||P\\X49\\D^\\X31\\|101": f(101, "PID", 1), "ERR||Z\\H\\99^1\\N\\2|101": f(101, "Z99", 12),
		"ERR||PID^18446744073709551617|101": nil, "ERR||PID^1^4294967297|101": nil, "ERR||PID^99999999999999999999999999|101": nil,
	} {
		for _, code := range []string{"AE", "AR", "CE", "CR", "AA", "CA"} {
			m := message(t, "|LAB", "MSA|"+code+"|x", line)
			a, err := Read(m)
			list := want
			if code[1] == 'A' {
				list = nil
			}
			w := api.Ack{Marks: common, From: [3]string{"LAB"}, Code: code, For: "x", Expect: -1, Errors: list}
			if err != nil || !same(a, w) {
				t.Errorf("%s, %s: %+v, %v, want %+v", code, line, a, err, w)
			}
			if model, at := modelRead(m); at != -1 || !same(model, w) {
				t.Errorf("%s, %s: the model: %+v, want %+v", code, line, model, w)
			}
		}
	}
}

// TestP1005ManyFindings: of the right ones the first eight, in order, wherever the ERRs stand.
func TestP1005ManyFindings(t *testing.T) {
	for n := range 20 {
		lines := []string{"|LAB"}
		var want []api.Finding
		for i := range n {
			if i == 3 {
				lines = append(lines, "MSA|AR|x", "ZZ1|y")
			}
			lines = append(lines, "ERR||PID^0|207", fmt.Sprintf("ERR||PID^%d|207", i+1), "ERR")
			if i < 8 {
				want = append(want, api.Finding{Code: 207, Seg: "PID", Occur: i + 1})
			}
		}
		lines = append(lines, "MSA|AE|y")
		a, err := Read(message(t, lines...))
		code := "AR"
		if n <= 3 {
			code = "AE"
		}
		if err != nil || a.Code != code || !same(a, api.Ack{Marks: common, From: a.From, Code: code, For: a.For, Expect: -1, Errors: want}) {
			t.Errorf("%d: %+v, %v, want %v", n, a, err, want)
		}
	}
}

// someFields are texts of fields under the common marks that are right, nearly right or wrong somewhere.
var someFields = []string{
	"", "", "", "", "LAB", "LAB^x^ISO", "^x^ISO", "LAB^a\\H\\b^ISO", "LAB^x", "a&b", "a~b", "\\H\\", "\"\"", "x y", "20240229120000", "20240229120000.12+0100", "2024",
	"ACK", "ACK^A01^ACK", "ADT^A01&x", "ADT^\\X413031\\", "A01", "P", "P^T", "T", "2.5.1", "2.5.1^x", "NE", "AL", "C7", "abcdefghijklmnopqrst", "abcdefghijklmnopqrstu",
	"AA", "AE", "CE", "CR", "AE", "A\\N\\E", "ZZ", "1", "0", "12", "012", "2147483647", "2147483648", "-1", "207", "207^^HL70357", "208", "101&x", "100~x", "MSH^1^13^1", "PID^1^0^1", "PID", "^0", "PID^1^3^1^1^1",
	"PID^1^3^1^1^1^\\H\\", "PID^128^66^32^32^16", "PID^1^3&x", "PID^1^3^1&\\H\\", "&", "^", "~", "^&~^", "E",
}

func randomMessage(t *testing.T, r *rand.Rand) api.Message {
	likely := map[string]map[int][]string{
		"MSA": {1: {"AE", "CE", "AR", "AA"}, 2: {"x", "C7"}, 4: {"", "7"}},
		"ERR": {2: {"", "PID^1", "MSH^1^9"}, 3: {"207", "101"}},
	}
	var lines []string
	for i := range 1 + r.Intn(12) {
		name := pick(r, "MSA", "ERR", "ERR", "ZZ1")
		first := 1
		if i == 0 {
			name, first = "", 3
		}
		line := name
		for n := range r.Intn(20) {
			text := pick(r, someFields...)
			if l := likely[name][n+first]; len(l) > 0 && r.Intn(8) > 0 {
				text = pick(r, l...)
			}
			line += "|" + text
		}
		lines = append(lines, line)
	}
	m := message(t, lines...)
	turned, err := tree.Turn(m, pick(r, manyMarks...))
	if err != nil {
		return m
	}
	return turned
}

// fattened has empty ends that a normal message doesn't have.
func fattened(m api.Message, r *rand.Rand) api.Message {
	m = cloneMessage(m)
	for i := range m.Segs {
		s := &m.Segs[i]
		for j := range s.Fields {
			f := &s.Fields[j]
			for k := range f.Reps {
				for l := range f.Reps[k].Comps {
					c := &f.Reps[k].Comps[l]
					c.Subs = append(c.Subs, make([]string, r.Intn(3))...)
				}
				f.Reps[k].Comps = append(f.Reps[k].Comps, make([]api.Comp, r.Intn(5))...)
			}
			f.Reps = append(f.Reps, make([]api.Rep, r.Intn(3))...)
		}
		s.Fields = append(s.Fields, make([]api.Field, r.Intn(5))...)
	}
	return m
}

func TestP1005Random(t *testing.T) {
	r := rand.New(rand.NewSource(1005))
	read := 0
	for range 6000 {
		m := randomMessage(t, r)
		want, at := modelRead(m)
		for _, m := range []api.Message{m, fattened(m, r)} {
			a, err := Read(m)
			switch {
			case at == 0:
				refused(t, fmt.Sprint(m), err, api.ErrUnknown, 0)
			case at > 0:
				refused(t, fmt.Sprint(m), err, api.ErrAck, at)
			case err != nil:
				t.Errorf("%v: %v", m, err)
			default:
				read++
			}
			if !same(a, want) {
				t.Errorf("%v: %+v, want %+v", m, a, want)
			}
			if Is(m) != (at != 0) {
				t.Errorf("%v: Is tells %v", m, Is(m))
			}
		}
	}
	if read < 3000 {
		t.Errorf("only %d were read", read)
	}
}
