package batch

import (
	"fmt"
	"math"
	"math/rand/v2"
	"reflect"
	"slices"
	"strings"
	"testing"

	"courier/api"
	"courier/tree"
)

// P2005.

// answers holds that Answer tells just these messages, without Head and Tail.
func answers(t *testing.T, f api.File, i int, acks []string, want ...string) {
	t.Helper()
	b, err := Answer(f, i, acks)
	if err != nil || len(b.Head) != 0 || len(b.Tail) != 0 || !slices.Equal(b.Messages, want) {
		t.Errorf("P2005: Answer(.., %d, %.200q): %.300q, %v, want %.300q", i, acks, b, err, want)
	}
}

// refusesAnswer holds that Answer refuses so, and tells nothing else.
func refusesAnswer(t *testing.T, f api.File, i int, acks []string, want *api.Fault) {
	t.Helper()
	b, err := Answer(f, i, acks)
	if !isFault(err, want) || !reflect.DeepEqual(b, api.Batch{}) {
		t.Errorf("P2005: Answer(.., %d, %.200q): %.300q, %v, want %v", i, acks, b, err, want)
	}
}

// asks is a message with that in MSH-10, on the wire.
func asks(control string) string { return head + "|A|||||||" + control + "\r" }

// ackOf is an acknowledgement with that in MSA-2, on the wire.
func ackOf(control string) string { return head + "|B\rMSA|AA|" + control + "\r" }

// three is a file of three batches.
func three() api.File {
	return filed(headed(asks("A1"), asks("A2")), headed(asks("B1"), asks("B2"), asks("B3")), headed(asks("A1")))
}

func TestP2005InOrder(t *testing.T) {
	f := three()
	answers(t, f, 0, []string{ackOf("A1"), ackOf("A2")}, ackOf("A1"), ackOf("A2"))
	answers(t, f, 0, []string{ackOf("A2"), ackOf("A1")}, ackOf("A1"), ackOf("A2"))
	answers(t, f, 0, []string{ackOf("A2")}, ackOf("A2"))
	answers(t, f, 1, []string{ackOf("B3"), ackOf("B1")}, ackOf("B1"), ackOf("B3"))
	answers(t, f, 2, []string{ackOf("A1")}, ackOf("A1"))
	orders := [][]int{{0, 1, 2}, {0, 2, 1}, {1, 0, 2}, {1, 2, 0}, {2, 0, 1}, {2, 1, 0}}
	for _, o := range orders {
		var list []string
		for _, n := range o {
			list = append(list, ackOf(fmt.Sprint("B", n+1)))
		}
		answers(t, f, 1, list, ackOf("B1"), ackOf("B2"), ackOf("B3"))
	}
	for i := range 3 {
		answers(t, f, i, nil)
		answers(t, f, i, []string{})
	}
	answers(t, bare(asks("X")), 0, []string{ackOf("X")}, ackOf("X"))
	answers(t, bare(msgA), 0, nil)
}

// TestP2005OneForms: an acknowledgement is told in its one form, however it was written.
func TestP2005OneForms(t *testing.T) {
	f := three()
	for given, want := range map[string]string{
		head + "|B\rMSA|AA|A2":                        ackOf("A2"),
		head + "|B||\rMSA|AA|A2^~&|\r":                ackOf("A2"),
		head + "|\rMSA||A2|":                          head + "\rMSA||A2\r",
		head + "\rMSA|XX|A2|text||3\rERR|x\rZZ1|\r":   head + "\rMSA|XX|A2|text||3\rERR|x\rZZ1\r",
		head + "\rMSA|AA|A2\rMSA|AA|A1":               head + "\rMSA|AA|A2\rMSA|AA|A1\r",
		head + "\rMSA||\\X4132\\":                     head + "\rMSA||\\X4132\\\r",
		head + "\rMSA||A\\H\\2\\N\\":                  head + "\rMSA||A\\H\\2\\N\\\r",
		head + "\rMSA|AA|A2\rBTS|1\r":                 head + "\rMSA|AA|A2\rBTS|1\r",
		head + "\rMSA|AA|A2|" + rep("x", 8172) + "\r": head + "\rMSA|AA|A2|" + rep("x", 8172) + "\r",
		head + "\rMSA|AA|A2|" + rep("x", 8172):        head + "\rMSA|AA|A2|" + rep("x", 8172) + "\r",
	} {
		answers(t, f, 0, []string{given}, want)
		answers(t, f, 0, []string{given, ackOf("A1")}, ackOf("A1"), want)
		answers(t, f, 0, []string{ackOf("A1"), given}, ackOf("A1"), want)
	}
}

func rep(text string, n int) string { return strings.Repeat(text, n) }

func TestP2005NoBatch(t *testing.T) {
	f := three()
	for _, i := range []int{math.MinInt, -4, -3, -1, 3, 4, 64, 256, 1 << 32, math.MaxInt} {
		refusesAnswer(t, f, i, nil, no(api.ErrRange, 0))
		refusesAnswer(t, f, i, []string{"", ackOf("A1")}, no(api.ErrRange, 0))
	}
	refusesAnswer(t, bare(msgA), 1, nil, no(api.ErrRange, 0))
}

// TestP2005NoFile: what Print refuses, with that refusal under it. (print_test asks it of every file that is refused.)
func TestP2005NoFile(t *testing.T) {
	f := three()
	f.Batches[1].Tail = seg("BTS", "2")
	under := &api.Fault{Layer: "batch", At: 1, Code: api.ErrCount}
	for _, i := range []int{0, 1, 7, -1} {
		refusesAnswer(t, f, i, []string{"x"}, &api.Fault{At: -1, Code: api.ErrFile, Under: under})
	}
	under = &api.Fault{Layer: "batch", At: 0, Code: api.ErrLong}
	refusesAnswer(t, bare(longList(mostFile+1)...), 0, nil, &api.Fault{At: -1, Code: api.ErrFile, Under: under})
}

// TestP2005NoMessages: what layer 6 does not read.
func TestP2005NoMessages(t *testing.T) {
	f := three()
	for _, text := range []string{
		"", "\r", "x", "MSH", "MSH|^~\\", "MSH|^~\\\r", head + "X", head + "\r\r", head + "\rMSA|AA|A1\r\r", head + "\rMSA|AA|A1\r" + head, head + "\rMSAX", head + "\rMSA|\t", head + "\rMSA|AA|\\Q\\",
		"FHS|^~\\&\rMSA|AA|A1", "MSA|AA|A1", head + "\rMSA|AA|A1|" + rep("x", 8173), head + "\rMSA|AA|A1|" + rep("x", 8173) + "\r", head + "\rMSA|AA|A1|" + rep("x", 8172) + "|", rep("x", 100000),
	} {
		read := text
		if text != "" && !strings.HasSuffix(text, "\r") {
			read += "\r"
		}
		if below(0, read) == nil {
			t.Fatalf("%q is a message", text)
		}
		refusesAnswer(t, f, 0, []string{text}, below(0, read))
		refusesAnswer(t, f, 0, []string{ackOf("A1"), text}, below(1, read))
		refusesAnswer(t, f, 1, []string{ackOf("B1"), ackOf("B3"), text, ackOf("B1")}, below(2, read))
	}
	// The CR that is put behind it counts: layer 6 would have taken the longest without it.
	if _, err := tree.Parse([]byte(head + "\rMSA|AA|A1|" + rep("x", 8173))); err != nil {
		t.Fatal(err)
	}
}

func TestP2005Marks(t *testing.T) {
	f := three()
	for _, five := range []string{"#~\\&|", "|^~\\#", "|^~#&", "|^#\\&", "|#~\\&", "#^~\\&", "#$%!?"} {
		s := five[:1]
		strange := "MSH" + five + "\rMSA" + s + "AA" + s + "A1\r"
		refusesAnswer(t, f, 0, []string{strange}, no(api.ErrMark, 0))
		refusesAnswer(t, f, 0, []string{ackOf("A2"), strange}, no(api.ErrMark, 1))
		// Ahead of its form, of what it answers, of whether that was answered.
		refusesAnswer(t, f, 0, []string{"MSH" + five}, no(api.ErrMark, 0))
		refusesAnswer(t, f, 0, []string{"MSH" + five + "\rMSA" + s + s + "??"}, no(api.ErrMark, 0))
		refusesAnswer(t, f, 0, []string{ackOf("A1"), strange}, no(api.ErrMark, 1))
		// A file in these marks takes it.
		g := bare("MSH" + five + rep(s, 8) + "A1\r")
		answers(t, g, 0, []string{strange}, strange)
		refusesAnswer(t, g, 0, []string{ackOf("A1")}, no(api.ErrMark, 0))
	}
}

func TestP2005Form(t *testing.T) {
	f := three()
	for _, text := range []string{
		head, head + "|A", head + "\rPID|AA|A1", head + "\rPID\rMSA|AA|A1", head + "\rERR\rMSA|AA|A1", head + "\rMSB|AA|A1", head + "\rMSA", head + "\rMSA|", head + "\rMSA|A1", head + "\rMSA|AA", head + "\rMSA|AA|", head + "\rMSA|AA||A1",
		head + "\rMSA|AA|^", head + "\rMSA|AA|~&^", head + "\rMSA|AA|A1^A1", head + "\rMSA|AA|A1~A1", head + "\rMSA|AA|A1&A1", head + "\rMSA|AA|^A1", head + "\rMSA|AA|~A1", head + "\rMSA|AA|&A1", head + "\rMSA|AA|A1^^x", head + "\rMSA|AA|A1~\\H\\", strings.TrimSuffix(asks("A1"), "\r"),
		head + "\rBTS|1|A1", head + "\rEVN|A1",
	} {
		refusesAnswer(t, f, 0, []string{text}, no(api.ErrForm, 0))
		refusesAnswer(t, f, 0, []string{ackOf("A1"), text + "\r"}, no(api.ErrForm, 1))
		refusesAnswer(t, f, 1, []string{ackOf("B1"), ackOf("B3"), text, ""}, no(api.ErrForm, 2))
	}
}

func TestP2005Unknown(t *testing.T) {
	f := three()
	for _, control := range []string{"B1", "A3", "A", "1", "A11", "a1", " A1", "A1 ", "A\\F\\1", "\"\"", "\\H\\", "\\.br\\A1", "AA", "\\E\\"} {
		refusesAnswer(t, f, 0, []string{ackOf(control)}, no(api.ErrUnknown, 0))
		refusesAnswer(t, f, 0, []string{ackOf("A1"), ackOf("A2"), ackOf(control)}, no(api.ErrUnknown, 2))
	}
	refusesAnswer(t, f, 1, []string{ackOf("A1")}, no(api.ErrUnknown, 0))
	refusesAnswer(t, f, 2, []string{ackOf("A2")}, no(api.ErrUnknown, 0))
	// A message whose MSH-10 is not one subcomponent is asked by none.
	for _, control := range []string{"", "A1^x", "A1~A1", "A1&1", "^A1", "~A1", "&A1", "A1^\\H\\"} {
		m := strings.TrimRight(asks(control), "|\r") + "\r"
		refusesAnswer(t, bare(m), 0, []string{ackOf("A1")}, no(api.ErrUnknown, 0))
		refusesAnswer(t, bare(m), 0, []string{ackOf("\\H\\")}, no(api.ErrUnknown, 0))
		answers(t, bare(m, asks("A1")), 0, []string{ackOf("A1")}, ackOf("A1"))
		answers(t, bare(m), 0, nil)
	}
	refusesAnswer(t, bare(msgA), 0, []string{ackOf("A")}, no(api.ErrUnknown, 0))
	// Fields beside MSH-10 are none.
	refusesAnswer(t, bare(head+"|||||||A1||A1\r", head+"\rPID|||||||||A1\rMSA|AA|A1\r"), 0, []string{ackOf("A1")}, no(api.ErrUnknown, 0))
}

// TestP2005PlainTexts: control ids are held against each other as plain texts.
func TestP2005PlainTexts(t *testing.T) {
	ways := [][]string{
		{"A1", "\\X4131\\", "A\\X31\\", "\\H\\A1\\N\\", "A\\Z\\1", "\\.ce\\A1"},
		{"a|b", "a\\F\\b", "a\\X7C\\b"},
		{"\\.br\\", "\\X0A\\", "\\.sp\\"},
		{"\\H\\", "\\N\\", "\\Z1\\", "\\.fi\\"},
		{"\\E\\", "\\X5C\\"},
		{"\"\"", "\\X2222\\"},
		{"\\.sk3\\", "   ", " \\.sk2\\"},
		{"\xc3\xa4", "\\XC3A4\\"},
	}
	for i, way := range ways {
		for _, a := range way {
			for j, others := range ways {
				for _, b := range others {
					if strings.Contains(a+b, "|") {
						continue
					}
					if i == j {
						answers(t, bare(asks(a), asks("Z9")), 0, []string{ackOf(b)}, ackOf(b))
						refusesAnswer(t, bare(asks("Z9"), asks(a)), 0, []string{ackOf(a), ackOf(b)}, no(api.ErrTwice, 1))
					} else {
						refusesAnswer(t, bare(asks(a)), 0, []string{ackOf(b)}, no(api.ErrUnknown, 0))
						answers(t, bare(asks(a), asks(b)), 0, []string{ackOf(b), ackOf(a)}, ackOf(a), ackOf(b))
					}
				}
			}
		}
	}
}

func TestP2005Twice(t *testing.T) {
	f := three()
	refusesAnswer(t, f, 0, []string{ackOf("A1"), ackOf("A1")}, no(api.ErrTwice, 1))
	refusesAnswer(t, f, 0, []string{ackOf("A1"), ackOf("A2"), ackOf("A1")}, no(api.ErrTwice, 2))
	refusesAnswer(t, f, 0, []string{ackOf("A2"), head + "\rMSA|AE|A2"}, no(api.ErrTwice, 1))
	refusesAnswer(t, f, 0, []string{ackOf("A2"), ackOf("A2"), ""}, no(api.ErrTwice, 1))
	refusesAnswer(t, f, 0, []string{ackOf("A2"), "", ackOf("A2")}, below(1, ""))
}

// TestP2005OneControlID: of two messages with one control id the first is answered; the other cannot be.
func TestP2005OneControlID(t *testing.T) {
	f := bare(asks("A1"), asks("A2"), asks("A1"), asks("A3"), asks("\\X4131\\"))
	answers(t, f, 0, []string{ackOf("A3"), ackOf("A1"), ackOf("A2")}, ackOf("A1"), ackOf("A2"), ackOf("A3"))
	answers(t, f, 0, []string{ackOf("A2"), ackOf("A1")}, ackOf("A1"), ackOf("A2"))
	refusesAnswer(t, f, 0, []string{ackOf("A1"), ackOf("A1")}, no(api.ErrTwice, 1))
	refusesAnswer(t, f, 0, []string{ackOf("A1"), ackOf("\\X4131\\")}, no(api.ErrTwice, 1))
}

// TestP2005All: of a full batch all are answered, in any order, and one more is one too many.
func TestP2005All(t *testing.T) {
	r := rand.New(rand.NewPCG(20, 5))
	var messages, acks []string
	for i := range 256 {
		messages = append(messages, asks(fmt.Sprint("C", i)))
		acks = append(acks, ackOf(fmt.Sprint("C", i)))
	}
	want := slices.Clone(acks)
	for range 5 {
		r.Shuffle(len(acks), func(i, j int) { acks[i], acks[j] = acks[j], acks[i] })
		answers(t, bare(messages...), 0, acks, want...)
		n := r.IntN(257)
		var some []string
		for _, a := range want {
			if slices.Contains(acks[:n], a) {
				some = append(some, a)
			}
		}
		answers(t, bare(messages...), 0, acks[:n], some...)
	}
	refusesAnswer(t, bare(messages...), 0, append(slices.Clone(acks), ackOf("C7")), no(api.ErrTwice, 256))
}

// modelAnswer is the chapter's text, by asking every message for every acknowledgement.
func modelAnswer(f api.File, i int, acks []string) ([]string, *api.Fault) {
	if i < 0 || i >= len(f.Batches) {
		return nil, no(api.ErrRange, 0)
	}
	k, _ := standing(f.Batches[0].Messages[0])
	list := f.Batches[i].Messages
	told := make([]string, len(list))
	for n, text := range acks {
		if text != "" && text[len(text)-1] != '\r' {
			text += "\r"
		}
		if wrong := below(n, text); wrong != nil {
			return nil, wrong
		}
		m, _ := tree.Parse([]byte(text))
		if m.Marks != k {
			return nil, no(api.ErrMark, n)
		}
		form, _ := tree.Print(m)
		lines := strings.Split(string(form), "\r")
		fields := strings.Split(lines[1], "|")
		if fields[0] != "MSA" || len(fields) < 3 || fields[2] == "" || strings.ContainsAny(fields[2], "^~&") {
			return nil, no(api.ErrForm, n)
		}
		asked := slices.IndexFunc(list, func(x string) bool {
			y := strings.Split(strings.Split(x, "\r")[0], "|")
			return len(y) > 9 && y[9] == fields[2]
		})
		if asked < 0 {
			return nil, no(api.ErrUnknown, n)
		}
		if told[asked] != "" {
			return nil, no(api.ErrTwice, n)
		}
		told[asked] = string(form)
	}
	return slices.DeleteFunc(told, func(s string) bool { return s == "" }), nil
}

func TestP2005Random(t *testing.T) {
	r := rand.New(rand.NewPCG(20, 6))
	texts := []string{"A1", "A2", "A3", "A4", "A5", "A6", "A7", "A8", "A1^x", "^A1", "A2~A2", "A3&", "A4^", "C", "C"}
	met := map[api.Errno]int{}
	for range 20000 {
		var f api.File
		for range 1 + r.IntN(3) {
			b := headed()
			for range 1 + r.IntN(5) {
				m, _ := tree.Parse([]byte(asks(pick(r, texts))))
				form, _ := tree.Print(m)
				b.Messages = append(b.Messages, string(form))
			}
			f.Batches = append(f.Batches, b)
		}
		f.Head, f.Tail = seg("FHS"), seg("FTS")
		i := r.IntN(len(f.Batches)+2) - r.IntN(2)
		var acks []string
		for range r.IntN(5) {
			a := ackOf(pick(r, texts))
			if r.IntN(10) == 0 {
				a = pick(r, []string{"", "x", head, "MSH#$%!?", head + "\rMSA", head + "\rPID||A1", "MSH#$%!?\rMSA##A1"})
			}
			if r.IntN(3) == 0 {
				a = strings.TrimSuffix(a, "\r")
			}
			acks = append(acks, a)
		}
		want, fault := modelAnswer(f, i, acks)
		if fault != nil {
			met[fault.Code]++
			refusesAnswer(t, f, i, acks, fault)
		} else {
			met[api.OK]++
			answers(t, f, i, acks, want...)
		}
	}
	for _, code := range []api.Errno{api.OK, api.ErrRange, api.ErrMark, api.ErrForm, api.ErrUnknown, api.ErrTwice, api.ErrNoMSH} {
		if met[code] < 100 {
			t.Errorf("the number %d came %d times", code, met[code])
		}
	}
}
