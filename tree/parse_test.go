package tree

import (
	"bytes"
	"fmt"
	"math/rand/v2"
	"runtime"
	"strings"
	"testing"

	"courier/api"
	"courier/esc"
)

// against holds Parse, and Print of what it tells, against the model.
func against(t *testing.T, text string) {
	t.Helper()
	m, err := Parse([]byte(text))
	if want := modelParse(text); want != nil {
		if !fits(err, want) {
			t.Fatalf("P601: Parse(%.200q): %v, want %v", text, err, want)
		}
		if m.Segs != nil || m.Marks != (api.Marks{}) {
			t.Fatalf("P601: Parse(%.200q): %s beside an error", text, shape(m))
		}
		return
	}
	normal := modelNormal(text)
	if err != nil || shape(m) != shape(modelTree(normal)) {
		t.Fatalf("P601: Parse(%.200q): %v, %s, want %s", text, err, shape(m), shape(modelTree(normal)))
	}
	b, err := Print(m)
	if len(normal) > api.MaxMessage {
		refused(t, fmt.Sprintf("P609: Print of what stands in %d bytes", len(text)), err, api.ErrLong, 0, nil)
		return
	}
	if err != nil || string(b) != normal {
		t.Fatalf("P609: Print(Parse(%.200q)): %v, %q, want %q", text, err, b, normal)
	}
}

func read1(t *testing.T, text string) api.Message {
	t.Helper()
	m, err := Parse([]byte(text))
	if err != nil {
		t.Fatalf("P601: Parse(%.200q): %v", text, err)
	}
	return m
}

func TestP601Plain(t *testing.T) {
	m := read1(t, head+"|A||B\rPID|1||x^y&z~w\r")
	one := func(s string) api.Field {
		return api.Field{Reps: []api.Rep{{Comps: []api.Comp{{Subs: []string{s}}}}}}
	}
	want := api.Message{Marks: common, Segs: []api.Seg{
		{Name: "MSH", Fields: []api.Field{one("A"), {}, one("B")}},
		{Name: "PID", Fields: []api.Field{one("1"), {}, {Reps: []api.Rep{
			{Comps: []api.Comp{{Subs: []string{"x"}}, {Subs: []string{"y", "z"}}}}, {Comps: []api.Comp{{Subs: []string{"w"}}}},
		}}}},
	}}
	if shape(m) != shape(want) {
		t.Errorf("P601: %s, want %s", shape(m), shape(want))
	}
	for text, want := range map[string]string{
		head:                             "\"|^~\\\\&\"\n\"MSH\"",
		head + "\r":                      "\"|^~\\\\&\"\n\"MSH\"",
		head + "|":                       "\"|^~\\\\&\"\n\"MSH\"",
		head + "|\"\"\r":                 "\"|^~\\\\&\"\n\"MSH\" {([\"\\\"\\\"\"])}",
		head + "|A||\rZZ1":               "\"|^~\\\\&\"\n\"MSH\" {([\"A\"])}\n\"ZZ1\"",
		head + "|&^~^&a&|\rP00|~^&\r":    "\"|^~\\\\&\"\n\"MSH\" {()([][\"\" \"a\"])}\n\"P00\"",
		"MSH#$%!?#a!S!b$c\rPID##|^~&x":   "\"#$%!?\"\n\"MSH\" {([\"a!S!b\"][\"c\"])}\n\"PID\" {} {([\"|^~&x\"])}",
		head + "|a\\F\\\\.sp3\\\xc3\xa4": "\"|^~\\\\&\"\n\"MSH\" {([\"a\\\\F\\\\\\\\.sp3\\\\ä\"])}",
		head + "\rFHS|x\rBHS\rMSI\rMSG|": "\"|^~\\\\&\"\n\"MSH\"\n\"FHS\" {([\"x\"])}\n\"BHS\"\n\"MSI\"\n\"MSG\"",
	} {
		if m := read1(t, text); shape(m) != want {
			t.Errorf("P601: Parse(%q): %s, want %s", text, shape(m), want)
		}
		against(t, text)
	}
}

func TestP601Faults(t *testing.T) {
	h := func(at int) error { return &api.Fault{Layer: "esc", At: at, Code: api.ErrHead} }
	w := func(at int) error { return &api.Fault{Layer: "esc", At: at, Code: api.ErrEscape} }
	for _, x := range []struct {
		text  string
		at    int
		code  api.Errno
		under error
	}{
		{"", 0, api.ErrNoMSH, h(0)}, {"\r", 0, api.ErrNoMSH, h(0)}, {"M", 1, api.ErrNoMSH, h(1)}, {"MSH", 3, api.ErrNoMSH, h(3)}, {"MSH\r", 3, api.ErrNoMSH, h(3)}, {"PID|1", 0, api.ErrNoMSH, h(0)},
		{"msh|^~\\&", 0, api.ErrNoMSH, h(0)}, {"MSH|^~^&", 6, api.ErrNoMSH, h(6)}, {"MSH|^~\\", 7, api.ErrNoMSH, h(7)}, {"MSH|^~\\|", 7, api.ErrNoMSH, h(7)}, {head + "x", 8, api.ErrNoMSH, h(8)}, {head + "^", 8, api.ErrNoMSH, h(8)},
		{"MSHA^~\\&A", 3, api.ErrNoMSH, h(3)}, {"FHS|^~\\&", 0, api.ErrNoMSH, nil}, {"BHS|^~\\&|a\r", 0, api.ErrNoMSH, nil}, {"FHS|^~\\&\rMSH", 0, api.ErrNoMSH, nil}, {"FHS|^~^&", 6, api.ErrNoMSH, h(6)}, {"BHS", 3, api.ErrNoMSH, h(3)},
		{"FHS|^~\\&x", 8, api.ErrNoMSH, h(8)}, {"BHS|^~\\&|\t", 0, api.ErrNoMSH, nil},
		{head + "\r\r", 9, api.ErrSegName, nil}, {head + "\r\rPID", 9, api.ErrSegName, nil}, {head + "|a\rPID\r\r", 15, api.ErrSegName, nil}, {head + "\rP", 10, api.ErrSegName, nil}, {head + "\rPI", 11, api.ErrSegName, nil},
		{head + "\rPI\r", 11, api.ErrSegName, nil}, {head + "\rPI|1", 11, api.ErrSegName, nil}, {head + "\r1ID", 9, api.ErrSegName, nil}, {head + "\rpID", 9, api.ErrSegName, nil}, {head + "\rPiD", 10, api.ErrSegName, nil},
		{head + "\rPId", 11, api.ErrSegName, nil}, {head + "\rP I", 10, api.ErrSegName, nil}, {head + "\r|", 9, api.ErrSegName, nil}, {head + "\rPIDX", 12, api.ErrSegName, nil}, {head + "\rPID1|", 12, api.ErrSegName, nil},
		{head + "\rPID^", 12, api.ErrSegName, nil}, {head + "\rPID \r", 12, api.ErrSegName, nil}, {head + "\rPID\\", 12, api.ErrSegName, nil}, {head + "\n", 8, api.ErrNoMSH, h(8)}, {head + "\r\nPID", 9, api.ErrSegName, nil}, {head + "\rPID\n", 12, api.ErrSegName, nil},
		{head + "\r@AA", 9, api.ErrSegName, nil}, {head + "\r[AA", 9, api.ErrSegName, nil}, {head + "\rA/A", 10, api.ErrSegName, nil}, {head + "\rA:A", 10, api.ErrSegName, nil}, {head + "\rA@A", 10, api.ErrSegName, nil}, {head + "\rAA[", 11, api.ErrSegName, nil},
		{head + "\rMSH|", 9, api.ErrSecond, nil}, {head + "\rMSH", 9, api.ErrSecond, nil}, {head + "\rMSHX", 9, api.ErrSecond, nil}, {head + "\rPID\rMSH|^~\\&", 13, api.ErrSecond, nil}, {head + "\rMS", 11, api.ErrSegName, nil}, {head + "\rMSh", 11, api.ErrSegName, nil},
		{head + "|a\\Q\\b", 10, api.ErrWire, w(1)}, {head + "|a\tb", 10, api.ErrWire, w(1)}, {head + "|\\", 9, api.ErrWire, w(0)}, {head + "|\\F", 9, api.ErrWire, w(0)}, {head + "|\\F|\\", 9, api.ErrWire, w(0)}, {head + "|a^b~c&d\x7f|e", 16, api.ErrWire, w(1)},
		{head + "|\x0b", 9, api.ErrWire, w(0)}, {head + "||\x1c\rPID", 10, api.ErrWire, w(0)}, {head + "|a\rPID|\n", 15, api.ErrWire, w(0)}, {head + "\rPID||x\\H\\y\x00z", 19, api.ErrWire, w(5)}, {head + "\rFHS|^~\\&", 15, api.ErrWire, w(0)},
		{head + "|\\F\r\\", 9, api.ErrWire, w(0)}, {head + "|\t\r\r", 9, api.ErrWire, w(0)}, {head + "\rP\t|\t", 10, api.ErrSegName, nil}, {head + "|a\\Q\\\rMSH", 10, api.ErrWire, w(1)}, {head + "\rMSH|\\", 9, api.ErrSecond, nil},
	} {
		m, err := Parse([]byte(x.text))
		refused(t, fmt.Sprintf("P601: Parse(%q)", x.text), err, x.code, x.at, x.under)
		if m.Segs != nil || m.Marks != (api.Marks{}) {
			t.Errorf("P601: Parse(%q): %s beside an error", x.text, shape(m))
		}
		against(t, x.text)
	}
}

func TestP601Counts(t *testing.T) {
	for _, x := range []struct {
		mark string
		most int
	}{{"|", api.MaxFields}, {"~", api.MaxReps}, {"^", api.MaxComps}, {"&", api.MaxSubs}} {
		for _, ahead := range []string{head + "|", head + "||", head + "\rPID|", head + "|a~b^c&d|"} {
			for _, fill := range []string{"", "x", "\\F\\"} {
				most := x.most
				if x.mark == "|" {
					line := ahead[strings.LastIndexByte(ahead, '\r')+1:]
					most -= strings.Count(strings.TrimPrefix(line, head), "|") - 1
				}
				full := ahead + fill + strings.Repeat(x.mark+fill, most-1)
				for _, behind := range []string{"", "\r", "\rPID|" + fill} {
					against(t, full+behind)
					read1(t, full+behind)
				}
				for _, behind := range []string{"", "a", "\t", "\\", "\r", "\r\r", x.mark, x.mark + "\t", "|", "&", "\rMSH"} {
					_, err := Parse([]byte(full + x.mark + behind))
					refused(t, fmt.Sprintf("P601: %d of %q behind %q", most+1, x.mark, ahead), err, api.ErrMany, len(full)+1, nil)
				}
				_, err := Parse([]byte(full + "\t" + x.mark))
				refused(t, "P601: a wrong byte ahead of one too many", err, api.ErrWire, len(full), &api.Fault{Layer: "esc", At: len(fill), Code: api.ErrEscape})
			}
		}
	}
}

// TestP601CountsAnew: each list is counted for itself.
func TestP601CountsAnew(t *testing.T) {
	sub := strings.Repeat("a&", api.MaxSubs-1) + "a"
	comp := sub + strings.Repeat("^", api.MaxComps-2) + "^" + sub
	rep := comp + strings.Repeat("~", api.MaxReps-2) + "~" + comp
	field := rep + strings.Repeat("|", api.MaxFields-2) + "|" + rep
	against(t, head+"|"+field+"\rPID|"+field+"\rPID|"+field)
	m := read1(t, head+"|"+field+"\rPID|"+field)
	f := m.Segs[1].Fields[api.MaxFields-1]
	if len(m.Segs[1].Fields) != 64 || len(f.Reps) != 32 || len(f.Reps[31].Comps) != 32 || len(f.Reps[31].Comps[31].Subs) != 16 || len(f.Reps[1].Comps) != 0 {
		t.Errorf("P601: lists at their bounds: %s", shape(m))
	}
}

func TestP601Segments(t *testing.T) {
	full := head + strings.Repeat("\rPID", 127)
	for _, behind := range []string{"", "\r", "|a", "|a\r"} {
		if m := read1(t, full+behind); len(m.Segs) != 128 {
			t.Errorf("P601: %d segments", len(m.Segs))
		}
		against(t, full+behind)
	}
	for _, behind := range []string{"PID", "\r", "\rPID", "MSH", "x", "P", "PIDX"} {
		_, err := Parse([]byte(full + "\r" + behind))
		refused(t, fmt.Sprintf("P601: the 129th segment %q", behind), err, api.ErrMany, len(full)+1, nil)
	}
	_, err := Parse([]byte(full + "X\rPID"))
	refused(t, "P601: a wrong name ahead of one too many", err, api.ErrSegName, len(full), nil)
}

func TestP601Bound(t *testing.T) {
	for _, n := range []int{8190, 8191, 8192, 8193, 8194, 20000} {
		for _, behind := range []string{"", "\r", "\rPID", "\rPID\r", "\\F\\", "|", "~\r"} {
			text := head + "|" + strings.Repeat("x", n-9-len(behind)) + behind
			against(t, text)
			_, err := Parse([]byte(text))
			if n <= api.MaxMessage != (err == nil) {
				t.Errorf("P601: %d bytes: %v", n, err)
			}
		}
	}
	for _, text := range []string{strings.Repeat("x", 8193), head + strings.Repeat("\r", 8185), head + "|" + strings.Repeat("\t", 8184), strings.Repeat("\r", 8193)} {
		_, err := Parse([]byte(text))
		refused(t, fmt.Sprintf("P601: %.12q, too long", text), err, api.ErrLong, 0, nil)
	}
	_, err := Parse([]byte(head + "|" + strings.Repeat("x", 8182) + "\t"))
	refused(t, "P601: the last byte that may be", err, api.ErrWire, 8191, &api.Fault{Layer: "esc", At: 8182, Code: api.ErrEscape})
}

const rich = head + "|LAB|a\\T\\b||20260105||ADT^A01^ADT_A01|A1|P~Q|2.5.1|||AL|\"\"\rPID|1||77^^^A&1~88^\\.sp3\\x\\X0D0A\\|M\xc3\xbcller^\\H\\J\\N\\||\rZ01\rFHS|x&y&&|~~z~\rOBX||&&^^a&^|"

func TestP601CutOff(t *testing.T) {
	for _, text := range []string{rich, strings.NewReplacer("|", "#", "^", "$", "~", "%", "\\", "!", "&", "?").Replace(rich)} {
		for i := range len(text) + 1 {
			against(t, text[:i])
			against(t, text[:i]+"\r")
			against(t, text[i:])
		}
	}
}

func TestP601Spoilt(t *testing.T) {
	for i := range len(rich) {
		for b := range 256 {
			against(t, rich[:i]+string([]byte{byte(b)})+rich[i+1:])
		}
		against(t, rich[:i]+rich[i+1:])
		for _, s := range []string{"\r", "|", "~", "^", "&", "\\", "\t", "A", "1"} {
			against(t, rich[:i]+s+rich[i:])
		}
	}
}

func TestP601EmptyEnds(t *testing.T) {
	for _, end := range []string{"&", "^", "~", "|", "&&", "&^", "^&", "^~&", "~^&|", "|&", "|~^&|||", "&^~|&^~|"} {
		for _, text := range []string{"|", "|a", "|a&b", "|a^b", "|a~b", "||a", "|^a", "|&a", "|~a", "|&^~|&a"} {
			for _, ahead := range []string{head, head + "\rPID", head + "|x\rZ99"} {
				against(t, ahead+text+end)
				against(t, ahead+text+end+"\r")
				against(t, ahead+text+end+"\rPID|y")
			}
		}
	}
}

func TestP601AllShortTexts(t *testing.T) {
	tokens := []string{"|", "^", "~", "&", "\\", "\r", "M", "F", "1", "\x80"}
	for _, ahead := range []string{head + "|", head + "\r", head + "\rPID", head, ""} {
		texts := []string{ahead}
		for range 4 {
			var longer []string
			for _, text := range texts {
				for _, token := range tokens {
					longer = append(longer, text+token)
				}
			}
			for _, text := range longer {
				against(t, text)
			}
			texts = longer
		}
	}
}

func someText(r *rand.Rand) string {
	five := pick(r, fives)
	e := five[3:4]
	tokens := []string{five[:1], five[:1], five[1:2], five[2:3], five[4:], "\r", "\rPID", "\rOBX" + five[:1], "a", "MSH", "Q1Z", "\xc3\xa4", e + "F" + e, e + "X0A" + e, e + ".br" + e, e + "H" + e, five[:1], five[1:2]}
	text := "MSH" + five
	if r.IntN(20) > 0 {
		text += five[:1]
	}
	for range r.IntN(60) {
		if r.IntN(60) == 0 {
			text += pick(r, []string{"\t", e, "\rMSH", "\rpid", "\r\r", "\x7f", strings.Repeat(five[1:2], 31), strings.Repeat(five[4:], 15), strings.Repeat("\rPID", 40), strings.Repeat("y", 4000)})
		}
		text += pick(r, tokens)
	}
	return text
}

func TestP601RandomTexts(t *testing.T) {
	r := dice(1)
	taken := 0
	for range 60000 {
		text := someText(r)
		against(t, text)
		if modelParse(text) == nil {
			taken++
		}
	}
	if taken < 5000 {
		t.Errorf("only %d of the texts are messages", taken)
	}
}

func TestP602Head(t *testing.T) {
	for _, first := range []string{head, head + "|A", head + "|A||b^c&d~e|", "MSH#$%!?#x", "", "MSH", "FHS|^~\\&", "BHS|^~\\&|a", "M", head + "x", head + "|\\Q\\", head + "|" + strings.Repeat("~", 32), "PID"} {
		for _, behind := range []string{"", "\r", "\r\r", "\rnonsense", "\rMSH|", "\r\t\x00", "\rPID|1\r", "\r" + strings.Repeat("x", 9000), "\r" + strings.Repeat("\rPID", 300), "\r" + strings.Repeat("\r", 100000)} {
			want, wantErr := Parse([]byte(first))
			m, err := Head([]byte(first + behind))
			if shape(m) != shape(want) || (err == nil) != (wantErr == nil) || err != nil && !fits(err, wantErr.(*api.Fault)) {
				t.Errorf("P602: Head(%.30q, and %d bytes): %s, %v, want %s, %v", first, len(behind), shape(m), err, shape(want), wantErr)
			}
		}
	}
	m, err := Head([]byte(head + "|A\rnonsense"))
	if err != nil || shape(m) != "\"|^~\\\\&\"\n\"MSH\" {([\"A\"])}" {
		t.Errorf("P602: %s, %v", shape(m), err)
	}
}

func TestP602Bound(t *testing.T) {
	for _, n := range []int{8190, 8191, 8192} {
		first := head + "|" + strings.Repeat("x", n-9)
		for _, behind := range []string{"", "\r", "\rx", "\r" + strings.Repeat("x", 20000)} {
			m, err := Head([]byte(first + behind))
			if err != nil || len(m.Segs) != 1 || m.Segs[0].Fields[0].Reps[0].Comps[0].Subs[0] != first[9:] {
				t.Errorf("P602: %d bytes and %d: %v", n, len(behind), err)
			}
		}
	}
	for _, n := range []int{8193, 8194, 20000} {
		first := head + "|" + strings.Repeat("x", n-9)
		for _, text := range []string{first, first + "\r", strings.Repeat("\t", n), strings.Repeat("M", n) + "\rPID"} {
			m, err := Head([]byte(text))
			refused(t, fmt.Sprintf("P602: %d bytes without a CR", n), err, api.ErrLong, 0, nil)
			if m.Segs != nil || m.Marks != (api.Marks{}) {
				t.Errorf("P602: %s beside an error", shape(m))
			}
		}
	}
	_, err := Head([]byte(strings.Repeat("M", 8192) + "\r"))
	refused(t, "P602: no MSH, as long as may be", err, api.ErrNoMSH, 1, &api.Fault{Layer: "esc", At: 1, Code: api.ErrHead})
}

func TestP602RandomTexts(t *testing.T) {
	r := dice(2)
	for range 20000 {
		text := someText(r)
		first, _, _ := strings.Cut(text, "\r")
		want := modelParse(first)
		m, err := Head([]byte(text))
		if !fits(err, want) || want == nil && shape(m) != shape(modelTree(modelNormal(first))) {
			t.Fatalf("P602: Head(%q): %s, %v, want %v", text, shape(m), err, want)
		}
	}
}

// TestP611LongText: what follows the first segment, or is more than may be, costs nothing.
func TestP611LongText(t *testing.T) {
	for _, text := range [][]byte{bytes.Repeat([]byte("x"), 1<<26), append([]byte(head+"|a\r"), make([]byte, 1<<26)...)} {
		var before, after runtime.MemStats
		runtime.ReadMemStats(&before)
		Head(text)
		Parse(text)
		runtime.ReadMemStats(&after)
		if spent := after.TotalAlloc - before.TotalAlloc; spent > 1<<20 {
			t.Errorf("P611: %d bytes of memory for %d that are too many", spent, len(text))
		}
	}
}

// TestP611Work: twice the text, about twice the memory, whatever it is made of.
func TestP611Work(t *testing.T) {
	spend := func(text string) uint64 {
		var before, after runtime.MemStats
		runtime.ReadMemStats(&before)
		m := read1(t, text)
		if _, err := Print(m); err != nil {
			t.Fatal(err)
		}
		runtime.ReadMemStats(&after)
		return after.TotalAlloc - before.TotalAlloc
	}
	for _, line := range []string{"PID|a\r", "PID|" + strings.Repeat("|", 62) + "a\r", "PID|" + strings.Repeat("a~", 31) + "\r", "PID|" + strings.Repeat("\\H\\", 20) + "\r"} {
		n := min(60, 4000/len(line))
		one, two := spend(head+"\r"+strings.Repeat(line, n)), spend(head+"\r"+strings.Repeat(line, 2*n))
		if two > 4*one+1<<16 {
			t.Errorf("P611: %d lines %.10q: %d bytes, twice as many: %d", n, line, one, two)
		}
	}
}

func TestP601MarksOfAnyKind(t *testing.T) {
	for _, five := range fives {
		if esc.Valid(marksOf(five)) != nil {
			t.Fatalf("the test's marks %q are not right", five)
		}
		text := strings.NewReplacer("|", five[:1], "^", five[1:2], "~", five[2:3], "\\", five[3:4], "&", five[4:]).Replace(head + "|A||b^c&d~e\\F\\\rPID|||\rOBX|1^~^&\r")
		against(t, text)
		if m := read1(t, text); m.Marks != marksOf(five) || len(m.Segs) != 3 || len(m.Segs[0].Fields) != 3 || len(m.Segs[0].Fields[2].Reps) != 2 {
			t.Errorf("P601: Parse(%q): %s", text, shape(m))
		}
	}
}
