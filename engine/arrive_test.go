package engine

import (
	"bytes"
	"fmt"
	"strconv"
	"strings"
	"testing"

	"courier/api"
)

// P1805 to P1807; DOC.md: what a responder does with what came in a frame.

// got is a frame that came to side 1 of the setup, and all that it brings.
type got struct {
	text   string
	want   string // the reply's text; empty: none
	counts api.Counts
}

// each frame comes to an engine of its own, and changes no table.
func (x got) play(t *testing.T, s api.Setup) {
	t.Helper()
	r := start(t, s, 1)
	before := fmt.Sprint(r.e.Image().Tables)
	var want []string
	if x.want != "" {
		want = []string{"out " + x.want}
	}
	r.arrive(framed(x.text), want...)
	r.counts(x.counts)
	if got := fmt.Sprint(r.e.Image().Tables); got != before || r.e.Image().Written != 0 {
		t.Errorf("%q: tables %s", x.text, got)
	}
}

var (
	refusedOne = api.Counts{Refused: 1}
	silentOne  = api.Counts{Silent: 1}
	strangeOne = api.Counts{Strange: 1}
)

// 1: no message.
func TestNoMessage(t *testing.T) {
	broken := report(100, 1)
	for _, x := range []got{
		{"", "", silentOne},
		{"nothing", "", silentOne},
		{"MSH", "", silentOne},
		{"MSH|^~\\&", "", silentOne},
		{"FHS|^~\\&|LAB|||||ADT^A01|A1\r\t", "", silentOne},
		{"\r" + original("A1"), "", silentOne},
		// The MSH itself is at fault, or has no control id.
		{strings.Replace(original("A1"), "LAB", "L\tB", 1), "", silentOne},
		{original("A 1") + "PID|\t\r", "", silentOne},
		{original("") + "PID|\t\r", "", silentOne},
		{original("1234567890123456789") + "PID|\t\r", "", silentOne},
		// It can be read, whatever follows; its structure and header are not looked at.
		{original("A1") + "PID|\t\r", reply("AR", "A1", "", broken), refusedOne},
		{original("A1") + "\r", reply("AR", "A1", "", broken), refusedOne},
		{original("A1") + original("A2"), reply("AR", "A1", "", broken), refusedOne},
		{original("A1") + "nonsense", reply("AR", "A1", "", broken), refusedOne},
		{strings.Replace(original("A1"), "|P|", "|T|", 1) + "\t", reply("AR", "A1", "", broken), refusedOne},
		{original("A1") + "MSA|AA|A1\r\t", reply("AR", "A1", "", broken), refusedOne},
		{of("A1", "", "AL NE") + "\t", reply("CR", "A1", "", broken), refusedOne},
		{of("A1", "", "ER AL") + "\t", reply("CR", "A1", "", broken), refusedOne},
		{of("A1", "", "SU AL") + "\t", "", refusedOne},
		{of("A1", "", "NE AL") + "\t", "", refusedOne},
		{of("A1", "", " AL") + "\t", "", refusedOne},
		{of("A1", "", "AL ") + "\t", reply("CR", "A1", "", broken), refusedOne},
		{of("A1", "", "XX AL") + "\t", reply("AR", "A1", "", broken), refusedOne},
		{of("A1", "", "AL XX") + "\t", reply("AR", "A1", "", broken), refusedOne},
		{of("A1", "", "AL^ AL^x") + "\t", reply("AR", "A1", "", broken), refusedOne},
		{strings.Replace(original("A1"), "ADT^A01", "XYZ^Q99", 1) + "\t", strings.Replace(reply("AR", "A1", "", broken), "ACK^A01^ACK", "ACK", 1), refusedOne},
	} {
		x.play(t, pair())
		x.play(t, numbers())
	}
}

// 1: too many bytes. A frame comes in pieces then, since none may have so many.
func TestTooManyBytes(t *testing.T) {
	long := report(207, 1)
	tail := strings.Repeat("p", longest)
	for _, x := range []got{
		{of("A1", "", "AL AL") + "PID|" + tail, reply("CR", "A1", "", long), refusedOne},
		{original("A1") + "PID|" + tail, reply("AR", "A1", "", long), refusedOne},
		{of("A1", "", "SU AL") + "PID|" + tail, "", refusedOne},
		{of("A1", "", "XX AL") + "PID|" + tail, reply("AR", "A1", "", long), refusedOne},
		{original("") + tail, "", silentOne},
		{"x" + original("A1") + tail, "", silentOne},
		// An MSA behind is not looked at.
		{original("A1") + "MSA|AA|A1\r" + tail, reply("AR", "A1", "", long), refusedOne},
		// An MSH that is longer than all that is kept of it is read as far as that.
		{strings.TrimSuffix(original("A1"), "\r") + "||||||||" + tail, reply("AR", "A1", "", long), refusedOne},
	} {
		r := start(t, pair(), 1)
		p := framed(x.text)
		r.arrive(p[:longest])
		var want []string
		if x.want != "" {
			want = []string{"out " + x.want}
		}
		r.arrive(p[longest:], want...)
		r.counts(x.counts)
		if len(r.e.Image().Tables.In) != 0 {
			t.Errorf("%.40q was accepted", x.text)
		}
	}
}

// One byte more than a message has, or none.
func TestLongestFrames(t *testing.T) {
	r := start(t, roomy(pair()), 1)
	text := padded("A1", longest)
	r.arrive(framed(text))
	r.sync("out "+reply("CA", "A1", ""), "deliver A1 0 new "+text)
	// 6: with its last CR it would have one byte too many; so would one that is known.
	for _, id := range []string{"A1", "A2"} {
		cut := strings.TrimSuffix(padded(id, longest+1), "\r")
		r.arrive(framed(cut), "out "+reply("CR", id, "", report(207, 1)))
	}
	r.counts(api.Counts{Refused: 2})
	// The header and the structure come ahead of that.
	cut := strings.TrimSuffix(padded("A2", longest+1), "\r")
	r.arrive(framed(strings.Replace(cut, "|P|", "|T|", 1)), "out "+reply("CR", "A2", "", report(202, 11)))
	r.arrive(framed(strings.Replace(cut, "PID|", "NK1|", 1)), "out "+reply("CE", "A2", "", "NK1^1|100^^HL70357|E"))
	// MSH-13 counts, and is not kept.
	r = start(t, roomy(numbers()), 1)
	full := withNumber(padded("A1", longest-1), 1)
	r.arrive(framed(full))
	r.sync("out "+reply("CA", "A1", ""), "deliver A1 1 new "+padded("A1", longest-1))
	r.arrive(framed(strings.TrimSuffix(withNumber(padded("A2", longest), 2), "\r")), "out "+reply("CR", "A2", "", report(207, 1)))
}

// 4: the header, in its order.
func TestWrongHead(t *testing.T) {
	with := func(conditions string, old, with string) string {
		return strings.Replace(of("A1", "", conditions), old, with, 1)
	}
	event := func(text, kind string) string { return strings.Replace(text, "ACK^A01^ACK", kind, 1) }
	for _, x := range []got{
		{with("", "ADT^A01", "ADT^A02"), event(reply("AR", "A1", "", report(201, 9)), "ACK^A02^ACK"), refusedOne},
		{with("", "ADT^A01", "ADT"), event(reply("AR", "A1", "", report(201, 9)), "ACK"), refusedOne},
		{with("", "ADT^A01", "ADT^A01^ADT_A01"), reply("AR", "A1", "", report(201, 9)), refusedOne},
		{with("", "ADT^A01", "ADT^A01^x&y"), reply("AR", "A1", "", report(201, 9)), refusedOne},
		{with("", "ADT^A01", "ADT^A01&x"), event(reply("AR", "A1", "", report(201, 9)), "ACK"), refusedOne},
		{with("", "ADT^A01", "ADT^^A01"), event(reply("AR", "A1", "", report(201, 9)), "ACK"), refusedOne},
		{with("", "ADT^A01", "ADT&x^A01"), reply("AR", "A1", "", report(200, 9)), refusedOne},
		{with("", "ADT^A01", "XYZ^A01"), reply("AR", "A1", "", report(200, 9)), refusedOne},
		{with("", "ADT^A01", "^A01"), reply("AR", "A1", "", report(200, 9)), refusedOne},
		{with("", "ADT^A01", ""), event(reply("AR", "A1", "", report(200, 9)), "ACK"), refusedOne},
		{with("", "ADT^A01", "adt^A01"), reply("AR", "A1", "", report(200, 9)), refusedOne},
		{with("", "|P|", "|T|"), reply("AR", "A1", "", report(202, 11)), refusedOne},
		{with("", "|P|", "||"), reply("AR", "A1", "", report(202, 11)), refusedOne},
		{with("", "|P|", "|P&x|"), reply("AR", "A1", "", report(202, 11)), refusedOne},
		{with("", "|P|", "|^P|"), reply("AR", "A1", "", report(202, 11)), refusedOne},
		{with("", "|P|", "|T~P|"), reply("AR", "A1", "", report(202, 11)), refusedOne},
		{with("", "2.5.1", "2.5"), reply("AR", "A1", "", report(203, 12)), refusedOne},
		{with("", "|2.5.1", ""), reply("AR", "A1", "", report(203, 12)), refusedOne},
		{with("", "|2.5.1", "|&2.5.1"), reply("AR", "A1", "", report(203, 12)), refusedOne},
		{with("XX AL", "", ""), reply("AR", "A1", "", report(103, 15)), refusedOne},
		{with("XX YY", "", ""), reply("AR", "A1", "", report(103, 15)), refusedOne},
		{with("AL YY", "", ""), reply("AR", "A1", "", report(103, 16)), refusedOne},
		{with("NE YY", "", ""), reply("AR", "A1", "", report(103, 16)), refusedOne},
		{with("AL^x AL", "", ""), reply("AR", "A1", "", report(103, 15)), refusedOne},
		{with("AL ~AL", "", ""), reply("AR", "A1", "", report(103, 16)), refusedOne},
		// The first of several; as in original mode where a condition is none.
		{strings.Replace(with("AL AL", "ADT^A01", "ADT^A02"), "|P|2.5.1", "|T|2.5", 1) + "NK1\r", event(reply("CR", "A1", "", report(201, 9)), "ACK^A02^ACK"), refusedOne},
		{with("ER AL", "|P|2.5.1", "|T|2.5"), reply("CR", "A1", "", report(202, 11)), refusedOne},
		{with("XX AL", "|P|2.5.1", "|P|2.5"), reply("AR", "A1", "", report(203, 12)), refusedOne},
		{with("AL XX", "ADT", "XYZ"), reply("AR", "A1", "", report(200, 9)), refusedOne},
		{of("A1", "", "XX AL") + "NK1\r", reply("AR", "A1", "", report(103, 15)), refusedOne},
		// Not sent, but a refusal.
		{with("SU AL", "|P|", "|T|"), "", refusedOne},
		{with("NE ER", "|P|", "|T|"), "", refusedOne},
		{with(" AL", "|P|", "|T|"), "", refusedOne},
		// Without a control id nobody is told, and it is no refusal, whatever else is wrong.
		{of("", "", "AL AL"), "", silentOne},
		{of("A_1", "", "AL AL"), "", silentOne},
		{of("A1^x", "", "XX AL"), "", silentOne},
		{strings.Replace(of("A 1", "", "AL AL"), "ADT", "XYZ", 1), "", silentOne},
		{strings.Replace(of("1234567890123456789", "", "AL AL"), "|P|", "|T|", 1), "", silentOne},
		{of("A 1", "", "AL AL") + "NK1\r", "", silentOne},
	} {
		x.play(t, pair())
	}
}

// 4: what is right in the header, in every way in which it may be written.
func TestRightHead(t *testing.T) {
	for _, swap := range [][2]string{
		{"", ""},
		{"ADT^A01", "ADT^A01^"},
		{"ADT^A01", "ADT^A01^\\H\\"},
		{"ADT^A01", "A\\X44\\T^A01"},
		{"ADT^A01", "ADT^A01^^other"},
		{"ADT^A01", "ADT^A01~XYZ"},
		{"|P|", "|P^T|"},
		{"|P|", "|P~T|"},
		{"|P|", "|\\X50\\|"},
		{"2.5.1", "2.5.1^USA"},
		{"2.5.1", "2.5.1~2.4"},
		{"|HIS|", "|NOBODY|"},
		{"|2026|", "||"},
		{"|A1|", "|A\\X31\\|"},
	} {
		r := start(t, pair(), 1)
		text := strings.Replace(original("A1"), swap[0], swap[1], 1)
		r.arrive(framed(text))
		m := strings.Replace(text, "A01^|", "A01|", 1)
		r.sync("deliver A1 0 new " + m)
	}
	// A structure's third part is asked for where it is there.
	s := pair()
	s.Profile = "message ADT A01 ADT_A01 = MSH end message ADT A01 ADT_A02 = MSH PID end"
	for kind, right := range map[string]bool{"ADT^A01": true, "ADT^A01^ADT_A01": true, "ADT^A01^ADT_A02": false, "ADT^A01^ADT_A03": false} {
		r := start(t, s, 1)
		r.arrive(framed(strings.Replace(of("A1", "", "NE NE"), "ADT^A01", kind, 1)))
		if got := len(r.e.Image().Tables.In) == 1; got != right {
			t.Errorf("%s: accepted %v", kind, got)
		}
	}
	// Which process is right hangs on the side.
	s = pair()
	s.Sides[0].Process, s.Sides[1].Process = "T", "D"
	r := start(t, s, 1)
	for _, process := range []string{"P", "T"} {
		wrong := strings.Replace(original("A1"), "|P|", "|"+process+"|", 1)
		r.arrive(framed(wrong), "out "+strings.Replace(reply("AR", "A1", "", report(202, 11)), "|P|", "|D|", 1))
	}
	r.arrive(framed(strings.Replace(original("A1"), "|P|", "|D|", 1)))
	if len(r.e.Image().Tables.In) != 1 {
		t.Error("the process of this side is not taken")
	}
}

// 5: the structure.
func TestWrongStructure(t *testing.T) {
	s := pair()
	s.Profile = "table 0001 = F M ; segment PID = 3 CX R max 4 ; 8 IS O in 0001 ; end message ADT A01 = MSH PID { NK1 } end"
	head := strings.TrimSuffix(of("A1", "", "AL AL"), "\r")
	for _, x := range []got{
		{head + "\r", reply("CE", "A1", "", "|100^^HL70357|E"), refusedOne},
		{head + "\rPID|||7|||||X\rNK1\r", reply("CE", "A1", "", "PID^1^8^1^1^1|103^^HL70357|E"), refusedOne},
		{head + "\rPID\rNK1\rPID|1||7\r", reply("CE", "A1", "", "PID^2|100^^HL70357|E", "PID^1^3|101^^HL70357|E", "PID^2^1|102^^HL70357|E"), refusedOne},
		{of("A1", "", "") + "NK1\r", reply("AE", "A1", "", "NK1^1|100^^HL70357|E"), refusedOne},
		{of("A1", "", "ER NE") + "NK1\r", reply("CE", "A1", "", "NK1^1|100^^HL70357|E"), refusedOne},
		{of("A1", "", "SU AL") + "NK1\r", "", refusedOne},
		{of("A1", "", "NE AL") + "NK1\r", "", refusedOne},
	} {
		x.play(t, s)
	}
	// Eight findings at most.
	text := head + "\rPID|||7\rNK1\r" + strings.Repeat("PID|1\r", 9)
	want := []string{"PID^2|100^^HL70357|E"}
	for i := range 4 {
		n := strconv.Itoa(i + 2)
		want = append(want, "PID^"+n+"^1|102^^HL70357|E", "PID^"+n+"^3|101^^HL70357|E")
	}
	got{text, reply("CE", "A1", "", want[:8]...), refusedOne}.play(t, s)
}

// 9: accepted, by each condition.
func TestAccepted(t *testing.T) {
	for _, c := range []string{"", "AL AL", "AL NE", "SU NE", "ER NE", "NE AL", "NE NE", " AL", "AL ", "ER ER", "SU SU"} {
		for _, s := range []api.Setup{roomy(pair()), roomy(numbers())} {
			number := 0
			if s.Sides[0].Sequence {
				number = 1
			}
			r := startAt(t, s, 1, 7)
			accept, app, _ := strings.Cut(c, " ")
			text := message("A1", strings.Repeat("1", number), accept, app, "PID|1")
			r.arrive(framed(text))
			bare := message("A1", "", accept, app, "PID|1")
			deliver := "deliver A1 " + strconv.Itoa(number) + " new " + bare
			commit := at(reply("CA", "A1", ""), 7)
			if accept != "AL" && accept != "SU" {
				commit = ""
			}
			x := r.e.Image()
			want := api.InEntry{Control: "A1", Text: []byte(bare), Number: number, Tick: 7, Commit: []byte(commit)}
			if len(x.Tables.In) != 1 || fmt.Sprint(x.Tables.In[0]) != fmt.Sprint(want) || x.Written != 1 || x.Counts != (api.Counts{}) || x.Tables.Expects != 2*number || x.Tables.Last != number {
				t.Fatalf("%q: %+v", c, x)
			}
			if commit == "" {
				r.sync(deliver)
			} else {
				r.sync("out "+commit, deliver)
			}
			// 6: a copy, byte for byte, whatever its number and whenever it comes.
			r.tick(3)
			again := []string{"out " + commit}[:min(len(commit), 1)]
			r.arrive(framed(text), again...)
			r.arrive(framed(withNumber(text, 77)), again...)
			r.arrive([]byte("\x0b"+strings.TrimSuffix(text, "\r")+"|||\x1c\r"), again...)
			r.counts(api.Counts{Again: 3})
			if r.e.Image().Written != 1 {
				t.Error("a copy was written")
			}
			// Another message of that control id.
			other := message("A1", strings.Repeat("2", number), accept, app, "PID|2")
			var refusal []string
			switch accept {
			case "AL", "ER":
				refusal = []string{"out " + at(reply("CE", "A1", "", report(205, 10)), 10)}
			case "":
				if app == "" {
					refusal = []string{"out " + at(reply("AE", "A1", "", report(205, 10)), 10)}
				}
			}
			r.arrive(framed(other), refusal...)
			r.counts(api.Counts{Again: 3, Refused: 1})
		}
	}
}

// 6: a copy of a decided message has both answers; one that went has none, and is new.
func TestCopies(t *testing.T) {
	s := pair()
	s.Sides[1].Compact = 256
	r := start(t, s, 1)
	ids := []string{"A1", "A2", "A3"}
	for _, id := range ids {
		r.arrive(framed(always(id)))
		r.e.Sync()
	}
	r.tick(1)
	r.verdict("A1", "AE", []api.Finding{{Code: 207}})
	ca, ae := "out "+reply("CA", "A1", ""), "out "+at(reply("AE", "A1", "+", "|207^^HL70357|E"), 1)
	r.sync(ae)
	r.tick(1)
	r.arrive(framed(always("A1")), ca, ae)
	r.verdict("A2", "AA", nil)
	r.arrive(framed(always("A1")))
	r.sync("out "+at(reply("AA", "A2", "+"), 2), ca, ae)
	r.verdict("A3", "AR", nil)
	r.sync("out " + at(reply("AR", "A3", "+"), 2))
	// Keep is 1: behind A1 two stand.
	if x := r.e.Image(); len(x.Tables.In) != 2 || x.Tables.In[0].Control != "A2" {
		t.Fatalf("tables %+v", x.Tables)
	}
	r.arrive(framed(always("A1")))
	r.sync("out "+at(reply("CA", "A1", ""), 2), "deliver A1 0 new "+always("A1"))
	r.counts(api.Counts{Again: 2})
	// Where the application's answer alone is sent, it alone is told again.
	r.arrive(framed(of("A4", "", "NE AL")))
	r.sync("deliver A4 0 new " + of("A4", "", "NE AL"))
	r.arrive(framed(of("A4", "", "NE AL")))
	r.verdict("A4", "AA", nil)
	aa := "out " + at(reply("AA", "A4", "+"), 2)
	r.sync(aa)
	r.arrive(framed(of("A4", "", "NE AL")), aa)
	r.counts(api.Counts{Again: 4})
	// And where no verdict is sent nothing is, but the copy is known.
	r.arrive(framed(of("A5", "", "NE NE")))
	r.e.Sync()
	r.verdict("A5", "AR", nil)
	r.sync()
	r.arrive(framed(of("A5", "", "NE NE")))
	r.counts(api.Counts{Again: 5})
}

// 6: without sequencing MSH-13 says nothing, whatever stands in it.
func TestNumbersWithoutSequencing(t *testing.T) {
	r := start(t, pair(), 1)
	for i, number := range []string{"", "7", "0", "-1", "x~y^z&w", "007"} {
		id := "A" + strconv.Itoa(i)
		r.arrive(framed(message(id, number, "", "")))
		r.sync("deliver " + id + " 0 new " + original(id))
		r.arrive(framed(message(id, "1^1", "", "")))
	}
	r.counts(api.Counts{Again: 6})
}

// 7: the number.
func TestNumbers(t *testing.T) {
	r := start(t, roomy(numbers()), 1)
	refusal := func(expect int) string { return "||" + strconv.Itoa(expect) }
	for i, number := range []string{"", "x", "01", "+1", "-2", "2147483648", "99999999999999999999", "1.0", "1^2", "1~1", "&1", "\\H\\", "\"\"", " 1"} {
		r.arrive(framed(message("A1", number, "", "")), "out "+reply("AE", "A1", "", report(102, 13)))
		r.arrive(framed(message("A1", number, "AL", "")), "out "+reply("CE", "A1", "", report(102, 13)))
		r.arrive(framed(message("A1", number, "SU", "")))
		r.counts(api.Counts{Refused: 3 * (i + 1)})
	}
	r = start(t, roomy(numbers()), 1)
	for _, number := range []string{"2", "3", "2147483647"} {
		r.arrive(framed(message("A1", number, "", "")), "out "+reply("AE", "A1", refusal(1), report(207, 13)))
		r.arrive(framed(message("A1", number, "ER", "AL")), "out "+reply("CE", "A1", refusal(1), report(207, 13)))
		r.arrive(framed(message("A1", number, "NE", "AL")))
	}
	// 0 and -1 are a link message's, if it is an MSH alone; else they are no numbers.
	for _, number := range []string{"0", "-1"} {
		r.arrive(framed(message("A1", number, "", "", "PID|1")), "out "+reply("AE", "A1", "", report(102, 13)))
	}
	r.arrive(framed(message("A1", "\\X31\\", "", "")))
	r.sync("deliver A1 1 new " + original("A1"))
	if x := r.e.Image().Tables; x.Expects != 2 || x.Last != 1 {
		t.Fatalf("tables %+v", x)
	}
	// The number that was accepted last, of another message.
	r.arrive(framed(message("A2", "1", "", "")), "out "+reply("AE", "A2", refusal(2), report(207, 13)))
	r.arrive(framed(message("A2", "3", "AL", "AL")), "out "+reply("CE", "A2", refusal(2), report(207, 13)))
	r.arrive(framed(message("A2", "2", "", "")))
	r.sync("deliver A2 2 new " + original("A2"))
	// What is known comes ahead of its number, and another message under a known id too.
	r.arrive(framed(message("A1", "x", "", "")))
	r.arrive(framed(message("A1", "9", "", "", "PID|1")), "out "+reply("AE", "A1", "", report(205, 10)))
}

// 7: behind the greatest number none is expected.
func TestGreatestNumber(t *testing.T) {
	r := start(t, roomy(numbers()), 1)
	resync := framed("MSH|^~\\&|LAB||HIS||2026||ADT^A01|R1|P|2.5.1|-1\r")
	r.arrive(resync)
	r.sync("out " + reply("AA", "R1", "||0"))
	r.arrive(framed(message("A1", "2147483647", "", "")))
	r.sync("deliver A1 2147483647 new " + original("A1"))
	if x := r.e.Image().Tables; x.Expects != top+1 || x.Last != top {
		t.Fatalf("tables %+v", x)
	}
	for _, n := range []string{"1", "2147483647", "2147483646"} {
		r.arrive(framed(message("A2", n, "", "")), "out "+reply("AE", "A2", "||0", report(207, 13)))
	}
	probe := framed("MSH|^~\\&|LAB||HIS||2026||ADT^A01|P1|P|2.5.1|0\r")
	r.arrive(probe, "out "+reply("AA", "P1", "||0"))
	// It is answered though nothing is expected, and changes nothing: the same control id.
	r.arrive(resync, "out "+reply("AA", "R1", "||0"))
	if x := r.e.Image(); x.Tables.Expects != top+1 || x.Counts.Again != 0 || x.Counts.Refused != 3 {
		t.Fatalf("image %+v", x)
	}
}

// 8: the application has judged none of thirty-two.
func TestTooManyOpen(t *testing.T) {
	r := start(t, roomy(numbers()), 1)
	for i := range 32 {
		r.arrive(framed(message("A"+strconv.Itoa(i), strconv.Itoa(i+1), "", "")))
	}
	if x := r.e.Image(); len(x.Tables.In) != 32 || x.Counts.Refused != 0 {
		t.Fatalf("image %+v", x)
	}
	r.e.Sync()
	full := report(207, 1)
	r.arrive(framed(message("B1", "33", "", "")), "out "+reply("AE", "B1", "", full))
	r.arrive(framed(message("B1", "33", "AL", "AL")), "out "+reply("CE", "B1", "", full))
	r.arrive(framed(message("B1", "33", "SU", "AL")))
	// The number comes ahead of that, and what is known.
	r.arrive(framed(message("B1", "34", "", "")), "out "+reply("AE", "B1", "||33", report(207, 13)))
	r.arrive(framed(message("A7", "1", "", "")))
	r.counts(api.Counts{Refused: 4, Again: 1})
	r.verdict("A7", "AA", nil)
	r.arrive(framed(message("B1", "33", "", "")))
	r.sync("out "+reply("AA", "A7", ""), "deliver B1 33 new "+original("B1"))
	r.arrive(framed(message("B2", "34", "", "")), "out "+reply("AE", "B2", "", full))
}

// P1806: whom a reply names, by what marks and with what stamp.
func TestReplies(t *testing.T) {
	s := pair()
	s.Sides[1] = api.Side{App: "H-I.S_", Facility: "N_1", Marks: common, Process: "T", Every: 5, Tries: 1, Keep: 1, Compact: 9}
	s.Version = "2.4"
	s.Start = "20251231235958"
	r := startAt(t, s, 1, 3)
	// An HD of the other side's that can be read is named, with its escapes written anew.
	r.arrive(framed("MSH|^~\\&|LAB^1.2\\T\\3^ISO|X^^|HIS||2026||ADT^A02|A1|P|2.5.1\r"),
		"out MSH|^~\\&|H-I.S_|N_1|LAB^1.2\\T\\3^ISO|X|20260101000001||ACK^A02^ACK|AA1|T|2.4\rMSA|AR|A1\rERR||MSH^1^9^1|201^^HL70357|E\r")
	r.arrive(framed("MSH|^~\\&|LAB two|a&b|HIS||2026||ADT^Z99|A1\r"),
		"out MSH|^~\\&|H-I.S_|N_1|||20260101000001||ACK|AA1|T|2.4\rMSA|AR|A1\rERR||MSH^1^9^1|201^^HL70357|E\r")
	// Under the message's marks what is one of them is escaped.
	r.arrive(framed("MSH_.-!$_LAB______XYZ.A01_A1_P_2!S!5___AL_AL\r"),
		"out MSH_.-!$_H!R!I!S!S!F!_N!F!1_LAB__20260101000001__ACK.A01.ACK_CA1_T_2!S!4___NE_NE\rMSA_CR_A1\rERR__MSH.1.9.1_200..HL70357_E\r")
	// The stamp stays at its end.
	s.Start = "99991231235958"
	r = startAt(t, s, 1, latest)
	r.arrive(framed(original("A1")+"\t"), "out MSH|^~\\&|H-I.S_|N_1|LAB||99991231235959||ACK^A01^ACK|AA1|T|2.4\rMSA|AR|A1\rERR||MSH^1^1^1|100^^HL70357|E\r")
}

// P1805: garbage, frames in pieces, and several frames at once.
func TestPieces(t *testing.T) {
	r := start(t, pair(), 1)
	r.arrive([]byte("xyz"))
	r.counts(api.Counts{})
	if x := r.e.Image().Frame; x != (api.Deframing{Garbage: 3}) {
		t.Errorf("frame %+v", x)
	}
	p := append([]byte("12"), framed(original("A1"))...)
	for i := range p {
		r.arrive(p[i : i+1])
	}
	r.counts(api.Counts{Garbage: 5})
	r.sync("deliver A1 0 new " + original("A1"))
	all := bytes.Join([][]byte{framed(message("B1", "", "", "", "NK1")), []byte("g"), framed(original("A2")), framed(original("A2")), framed(always("A3")), []byte("\x0bMSH|")}, nil)
	r.arrive(all, "out "+reply("AE", "B1", "", "NK1^1|100^^HL70357|E"))
	r.counts(api.Counts{Garbage: 6, Refused: 1, Again: 1})
	if x := r.e.Image().Frame; x != (api.Deframing{Inside: true, Held: 4, Size: 4}) {
		t.Errorf("frame %+v", x)
	}
	r.sync("deliver A2 0 new "+original("A2"), "out "+reply("CA", "A3", ""), "deliver A3 0 new "+always("A3"))
	// A half frame is forgotten by a crash.
	r.restart([2]api.Tear{}, 0, "deliver A1 0 again "+original("A1"), "deliver A2 0 again "+original("A2"), "deliver A3 0 again "+always("A3"))
	if x := r.e.Image(); x.Frame != (api.Deframing{}) || x.Counts != (api.Counts{}) {
		t.Errorf("image %+v", x)
	}
}
