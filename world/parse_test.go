package world

import (
	"errors"
	"fmt"
	"strings"
	"testing"

	"courier/api"
	"courier/setup"
)

// P2201: Parse.

func TestParse(t *testing.T) {
	s := parsed(t, head+"submit 0 "+`"a\r\"\\\x00 b"`+"\nverdict 1 A1 AE 207 PID 1 2 3 4 5 101 - 0 0 0 0 999\ntick 2 7\nsync 0\ncompact 1\nfuse 0 -1\ncrash 1 1 2 3 4\nrestart 1\nprobe 0 P1\nresync 1 R1 9\ncarry 0 1 2\ndrop 1 3\ndouble 0 4\nclip 1 5 6\nnoise 0 \"\"\nraw 1 \"x\"\n")
	if s.Setup != plainSetup() {
		t.Errorf("the setup: %+v", s.Setup)
	}
	want := []api.Event{
		{Kind: api.EvSubmit, Text: []byte("a\r\"\\\x00 b")},
		{Kind: api.EvVerdict, Side: 1, Control: "A1", Code: "AE", Errors: []api.Finding{{Code: 207, Seg: "PID", Occur: 1, Field: 2, Rep: 3, Comp: 4, Sub: 5}, {Code: 101, Sub: 999}}},
		{Kind: api.EvTick, Side: 2, Count: 7},
		{Kind: api.EvSync},
		{Kind: api.EvCompact, Side: 1},
		{Kind: api.EvFuse, Count: -1},
		{Kind: api.EvCrash, Side: 1, Tears: [2]api.Tear{{Keep: 1, Zeros: 2}, {Keep: 3, Zeros: 4}}},
		{Kind: api.EvRestart, Side: 1},
		{Kind: api.EvProbe, Control: "P1"},
		{Kind: api.EvResync, Side: 1, Control: "R1", Count: 9},
		{Kind: api.EvCarry, Index: 1, Count: 2},
		{Kind: api.EvDrop, Side: 1, Index: 3},
		{Kind: api.EvDouble, Index: 4},
		{Kind: api.EvClip, Side: 1, Index: 5, Count: 6},
		{Kind: api.EvNoise},
		{Kind: api.EvRaw, Side: 1, Text: []byte("x")},
	}
	if !sameEvents(s.Events, want) {
		t.Errorf("the events: %v\nwant %v", s.Events, want)
	}
}

func TestParseEnds(t *testing.T) {
	for _, text := range []string{head, strings.TrimSuffix(head, "\n")} {
		if s := parsed(t, text); len(s.Events) != 0 || s.Setup != plainSetup() {
			t.Errorf("%q: %+v", text, s)
		}
	}
	for _, end := range []string{"", "\n"} {
		s := parsed(t, head+"sync 1"+end)
		if !sameEvents(s.Events, []api.Event{{Kind: api.EvSync, Side: 1}}) {
			t.Errorf("end %q: %+v", end, s.Events)
		}
		s = parsed(t, head+"sync 1\nraw 0 \"\""+end)
		if !sameEvents(s.Events, []api.Event{{Kind: api.EvSync, Side: 1}, {Kind: api.EvRaw}}) {
			t.Errorf("end %q: %+v", end, s.Events)
		}
	}
	noParse(t, head+"\n", headLines+1, api.ErrScript)
	noParse(t, head+"sync 1\n\n", headLines+2, api.ErrScript)
	noParse(t, head+"\nsync 1\n", headLines+1, api.ErrScript)
	noParse(t, head+"sync 1\r\n", headLines+1, api.ErrScript)
}

// padded gives a script of so many bytes.
func padded(t *testing.T, size int) string {
	t.Helper()
	text := head + "raw 0 \"" + strings.Repeat("x", size-len(head)-len("raw 0 \"\"\n")) + "\"\n"
	if len(text) != size {
		t.Fatal(len(text))
	}
	return text
}

func TestParseTooLong(t *testing.T) {
	for _, size := range []int{longest - 1, longest} {
		if s := parsed(t, padded(t, size)); len(s.Events) != 1 || len(s.Events[0].Text) < 200000 {
			t.Errorf("%d bytes: %d events", size, len(s.Events))
		}
	}
	noParse(t, padded(t, longest+1), 0, api.ErrLong)
	noParse(t, padded(t, longest+1000), 0, api.ErrLong)
	// Ahead of all else.
	for _, text := range []string{strings.Repeat("\n", longest+1), strings.Repeat("sync 0\n", longest), "setup\n" + strings.Repeat("x\n", longest), head + strings.Repeat("sync 2\n", longest), strings.Repeat("\xff", longest+1)} {
		noParse(t, text, 0, api.ErrLong)
	}
	noParse(t, strings.Repeat("\n", longest), 1, api.ErrBlock)
}

func TestParseNoSetup(t *testing.T) {
	for _, first := range []string{"", " setup", "setup ", "Setup", "SETUP", "setup\r", "setup\x00", "setups", "\"setup\"", "setup # x", "events", "#", "sync 0", "start 20260105000000"} {
		for _, rest := range []string{"", "\n", "\nsetup\n", "\n" + setupText + "events\n", "\nevents\nsync 0\n", "\n" + setupText, "\nevents\nwrong"} {
			noParse(t, first+rest, 1, api.ErrBlock)
		}
	}
	noParse(t, "", 1, api.ErrBlock)
	noParse(t, "\n"+head, 1, api.ErrBlock)
	noParse(t, setupText+"events\n", 1, api.ErrBlock)
}

func TestParseNoEvents(t *testing.T) {
	for text, lines := range map[string]int{
		"setup": 1, "setup\n": 1, "setup\n\n": 2, "setup\n\n\n": 3, "setup\nx": 2, "setup\nx\n": 2, "setup\nsetup\n": 2,
		"setup\n" + setupText: 23, "setup\n" + strings.TrimSuffix(setupText, "\n"): 23,
		"setup\n" + setupText + "sync 0\n": 24, "setup\n" + setupText + "Events\nsync 0": 25,
		"setup\nevents \n": 2, "setup\n events\n": 2, "setup\nevents\r\n": 2, "setup\nevents # x\n": 2, "setup\n\"events\"\n": 2, "setup\nevent\neventsevents\n": 3, "setup\nx events\n": 2,
	} {
		noParse(t, text, lines+1, api.ErrBlock)
	}
}

// noSetup: the setup's refusal is the script's.
func noSetup(t *testing.T, text string, events string) {
	t.Helper()
	_, want := setup.Parse(text)
	var f *api.Fault
	if !errors.As(want, &f) {
		t.Fatalf("setup.Parse takes %q", text)
	}
	s, at, err := Parse("setup\n" + text + "events\n" + events)
	isOver(t, text, at, err, f.At+1, f.Code, want)
	if !isEmptyScript(s) {
		t.Errorf("%+v beside a refusal", s)
	}
}

func TestParseSetupFaults(t *testing.T) {
	list := strings.SplitAfter(strings.TrimSuffix(setupText, "\n"), "\n")
	for i := range list {
		for _, wrong := range []string{"x\n", "\"\n", "side c\n", "every 0\n", "setup\n", list[i] + list[i], ""} {
			text := strings.Join(list[:i], "") + wrong + strings.Join(list[i+1:], "")
			if !strings.HasSuffix(text, "\n") {
				text += "\n"
			}
			if _, err := setup.Parse(text); err == nil {
				continue
			}
			for _, events := range []string{"", "sync 0\n", "wrong\n"} {
				noSetup(t, text, events)
			}
		}
		if i < len(list)-1 { // without structures
			noSetup(t, strings.Join(list[:i], ""), "")
		}
	}
	noSetup(t, "", "")
	noSetup(t, "x\n", "")
	noSetup(t, "\n\n", "")
	noSetup(t, setupText+"message ADT A01 = MSH end\n", "sync 0\n") // the profile's refusal, at the line structures
	noSetup(t, setupText+"what\n", "sync 0\n")
	noSetup(t, setupText+strings.Repeat(" ", 65536)+"\n", "wrong\n") // ErrLong at 0: At 1
	noSetup(t, setupText+strings.Repeat(" ", 40000)+"\n", "")
	noSetup(t, setupText+"\x00\n", "")
	_, at, err := Parse("setup\nevents\n")
	isFault(t, "no lines", at, err, 2, api.ErrMissing)
	_, at, err = Parse("setup\nx\nevents\n")
	isFault(t, "x", at, err, 2, api.ErrLine)
	_, at, err = Parse("setup\n" + setupText + strings.Repeat(" ", 65536) + "\nevents\n")
	isFault(t, "too long a setup", at, err, 1, api.ErrLong)
}

// The first line `events` ends the setup, also where it stands in the profile's text.
func TestParseFirstEvents(t *testing.T) {
	noParse(t, head+"events\n", headLines+1, api.ErrScript)
	noParse(t, head+"sync 0\nevents\nsync 0\n", headLines+2, api.ErrScript)
	text := strings.Replace(setupText, "[ PID ] end\n", "[ PID ]\nevents\nend\n", 1)
	_, at, err := Parse("setup\n" + text + "events\n")
	isFault(t, "a profile that is cut", at, err, 22, 180)
	// A line `setup` in the setup is the setup's affair: in a profile it may be a word.
	rest := strings.Replace(setupText, "message", "table 0001 =\nsetup\n;\nmessage", 1)
	if s := parsed(t, "setup\n"+rest+"events\nsync 0\n"); len(s.Events) != 1 || !strings.Contains(s.Setup.Profile, "setup\n") {
		t.Errorf("%+v", s)
	}
	// All that a setup's text may have: comments, blanks, lines that say nothing, quotation marks.
	odd := "# first\n\n \t\n" + strings.Replace(setupText, "app LAB", "app\t\"LAB\"   # it's \"me\"", 1) + "# last events\n\r\n"
	if s := parsed(t, "setup\n"+odd+"events"); s.Setup.Sides[0].App != "LAB" || !strings.HasSuffix(s.Setup.Profile, "# last events\n\r\n") || s.Setup != setupOfText(t, odd) {
		t.Errorf("%+v", s)
	}
}

// goodLines are lines of each kind with each place at its borders.
var goodLines = []string{
	`submit 0 ""`, `submit 1 "x"`, `submit 0 " "`, `submit 0 "~}|{z"`, `submit 0 "\"\\\r"`, `submit 0 "\x00\x0A\x0C\x0E\x1F\x7F\x80\xAB\xFF"`, `submit 0 "\\x41"`, `submit 0 "\\\""`, `submit 0 "\\"`, `submit 0 "  "`, `submit 0 "# events"`,
	"submit 0 \"" + strings.Repeat("x", 9000) + "\"",
	`verdict 0 A1 AA`, `verdict 1 - -`, `verdict 1 # !`, `verdict 0 AA AE 0 - 0 0 0 0 0`, `verdict 1 x y 999 SEG 999 999 999 999 999 1 0 2 3 4 5 6`, `verdict 1 1 2 3 4 5 6 7 8 9`,
	"verdict 0 " + strings.Repeat("~", 64) + " " + strings.Repeat("!", 64) + " 1 " + strings.Repeat("s", 64) + " 0 0 0 0 0",
	"verdict 0 x y" + strings.Repeat(" 1 - 0 0 0 0 0", 500),
	`tick 0 1`, `tick 1 99999`, `tick 2 100000`, `sync 0`, `sync 1`, `compact 0`, `compact 1`, `restart 0`, `restart 1`,
	`fuse 0 -1`, `fuse 1 0`, `fuse 0 1`, `fuse 1 1000000`,
	`crash 0 0 0 0 0`, `crash 1 16777216 16777216 16777216 16777216`, `crash 0 1 22 333 4444`,
	`probe 0 P1`, `probe 1 "`[:8] + `x`, "probe 0 " + strings.Repeat("p", 64), `probe 1 \x41`, `resync 0 R1 0`, `resync 1 R1 2147483647`,
	`carry 0 0 0`, `carry 1 10000 10000`, `drop 0 0`, `drop 1 10000`, `double 0 0`, `double 1 10000`, `clip 0 0 0`, `clip 1 10000 10000`,
	`noise 0 ""`, `noise 1 "\x0B"`, `raw 0 ""`, `raw 1 "\x0B\x1C\r"`,
}

// badLines are none.
var badLines = []string{
	"", " ", "\t", "x", "0", "events", "setup", "# sync 0", "sync 0 # x", "Sync 0", "SYNC 0", "sync0", "syncs 0", "syn 0", "\"sync\" 0",
	`sync`, `sync `, `sync  0`, ` sync 0`, `sync 0 `, "sync\t0", "sync 0\t", "sync 0\r", `sync 0 0`, `sync 2`, `sync -1`, `sync 00`, `sync 01`, `sync +0`, `sync -0`, `sync x`, `sync "0"`, `sync 0.0`, `sync 1e0`, `sync 9223372036854775807`, `sync 18446744073709551616`, "sync 0\x00", "sync \xff", "sync ٠",
	`compact`, `compact 2`, `compact 0 0`, `restart`, `restart 2`, `restart 1 1`,
	`submit`, `submit 0`, `submit 0 `, `submit ""`, `submit 2 ""`, `submit 0 x`, `submit 0 "`, `submit 0 """`, `submit 0 "a"b"`, `submit 0 "a" `, `submit 0  "a"`, `submit 0 "a" b`, `submit 0 "a" "b"`, `submit 0 a"`, `submit 0 "a`, `submit 0 'a'`, `submit  0 "a"`, `submit 0"a"`, `submit "a" 0`, ` submit 0 "a"`,
	`submit 0 "\"`, `submit 0 "\`, `submit 0 \"`, `submit 0 "a\"`, `submit 0 "\\\"`, `submit 0 "\n"`, `submit 0 "\R"`, `submit 0 "\t"`, `submit 0 "\X00"`, `submit 0 "\x"`, `submit 0 "\x0"`, `submit 0 "\x0`, `submit 0 "\xA"`, `submit 0 "\x0g"`, `submit 0 "\xG0"`, `submit 0 "\x0a"`, `submit 0 "\xa0"`, `submit 0 "\xff"`, `submit 0 "\x0D"`, `submit 0 "\x20"`, `submit 0 "\x41"`, `submit 0 "\x7E"`, `submit 0 "\x22"`, `submit 0 "\x5C"`, `submit 0 "\x 0"`, `submit 0 "\x+1"`, `submit 0 "\x0` + "\x30", `submit 0 "\0"`, `submit 0 "\u0041"`, `submit 0 "\ "`, "submit 0 \"\x00\"", "submit 0 \"\r\"", "submit 0 \"\t\"", "submit 0 \"\x1f\"", "submit 0 \"\x7f\"", "submit 0 \"\x80\"", "submit 0 \"é\"", "submit 0 \"\xff\"",
	`verdict`, `verdict 0`, `verdict 0 A1`, `verdict 0 A1 `, `verdict 2 A1 AA`, `verdict 0  AA`, `verdict 0 A"1 AA`, `verdict 0 A1 "AA"`, "verdict 0 A\t1 AA", "verdict 0 é AA", "verdict 0 A1 \x7f", `verdict 0 A1 AA `, `verdict 0 A1 AA  1 - 0 0 0 0 0`, `verdict A1 0 AA`,
	"verdict 0 " + strings.Repeat("x", 65) + " AA", "verdict 0 A1 " + strings.Repeat("x", 65), "verdict 0 A1 AA 1 " + strings.Repeat("x", 65) + " 0 0 0 0 0",
	`verdict 0 A1 AE 1`, `verdict 0 A1 AE 1 -`, `verdict 0 A1 AE 1 - 0 0 0 0`, `verdict 0 A1 AE 1 - 0 0 0 0 0 0`, `verdict 0 A1 AE 1 - 0 0 0 0 0 1 - 0 0 0 0`, `verdict 0 A1 AE 1 - 0 0 0 0 0 `, `verdict 0 A1 AE - - 0 0 0 0 0`, `verdict 0 A1 AE 1 0 0 0 0 0`, `verdict 0 A1 AE x - 0 0 0 0 0`, `verdict 0 A1 AE 1  0 0 0 0 0`, `verdict 0 A1 AE 1 "" 0 0 0 0 0`,
	`verdict 0 A1 AE 1000 - 0 0 0 0 0`, `verdict 0 A1 AE -1 - 0 0 0 0 0`, `verdict 0 A1 AE 1 - 1000 0 0 0 0`, `verdict 0 A1 AE 1 - 0 1000 0 0 0`, `verdict 0 A1 AE 1 - 0 0 1000 0 0`, `verdict 0 A1 AE 1 - 0 0 0 1000 0`, `verdict 0 A1 AE 1 - 0 0 0 0 1000`, `verdict 0 A1 AE 1 - -1 0 0 0 0`, `verdict 0 A1 AE 1 - 0 0 0 0 -1`, `verdict 0 A1 AE 01 - 0 0 0 0 0`, `verdict 0 A1 AE 1 - 0 0 0 0 00`, `verdict 0 A1 AE 1 - 0 +1 0 0 0`,
	`tick`, `tick 0`, `tick 0 0`, `tick 0 100001`, `tick 0 -1`, `tick 3 1`, `tick -1 1`, `tick 0 01`, `tick 0 +1`, `tick 0 1 1`, `tick 0 1 `, `tick 0  1`, `tick 0 1.5`, `tick 0 4294967297`, `tick 1`, `tick 0 x`, `tick 0 "1"`,
	`fuse`, `fuse 0`, `fuse 0 -2`, `fuse 0 1000001`, `fuse 2 0`, `fuse 0 -0`, `fuse 0 -01`, `fuse 0 --1`, `fuse 0 - 1`, `fuse 0 -`, `fuse 0 0 0`, `fuse 0 00`,
	`crash`, `crash 0`, `crash 0 0`, `crash 0 0 0`, `crash 0 0 0 0`, `crash 0 0 0 0 0 0`, `crash 2 0 0 0 0`, `crash 0 16777217 0 0 0`, `crash 0 0 16777217 0 0`, `crash 0 0 0 16777217 0`, `crash 0 0 0 0 16777217`, `crash 0 -1 0 0 0`, `crash 0 0 -1 0 0`, `crash 0 0 0 -1 0`, `crash 0 0 0 0 -1`, `crash 0 0 00 0 0`, `crash 0 0  0 0`, `crash 0 0 0 0 0 `,
	`probe`, `probe 0`, `probe 0 `, `probe 2 P`, `probe 0 P P`, `probe 0 P `, `probe 0 "P"`, `probe 0 P"`, "probe 0 " + strings.Repeat("p", 65), `probe P 0`,
	`resync`, `resync 0`, `resync 0 R`, `resync 0 R -1`, `resync 0 R 2147483648`, `resync 0 R 01`, `resync 0 R 1 1`, `resync 2 R 1`, `resync 0 1 R`, `resync 0 R x`, `resync 0  1`,
	`carry`, `carry 0`, `carry 0 0`, `carry 0 10001 0`, `carry 0 0 10001`, `carry 0 -1 0`, `carry 0 0 -1`, `carry 2 0 0`, `carry 0 0 0 0`, `carry 0 00 0`, `carry 0 0 00`,
	`drop`, `drop 0`, `drop 0 10001`, `drop 0 -1`, `drop 2 0`, `drop 0 0 0`, `double`, `double 0`, `double 0 10001`, `double 0 -1`, `double 2 0`, `double 0 0 0`,
	`clip`, `clip 0`, `clip 0 0`, `clip 0 10001 0`, `clip 0 0 10001`, `clip 0 -1 0`, `clip 0 0 -1`, `clip 2 0 0`, `clip 0 0 0 0`,
	`noise`, `noise 0`, `noise ""`, `noise 2 ""`, `noise 0 x`, `raw`, `raw 0`, `raw ""`, `raw 2 ""`, `raw 0 x`, `raw 0 "" ""`,
	"sync 0 \"\"", "up 0", "0 up 0", "lost 0", "out 0 \"\"",
}

// likeSecond: Parse says of a line what the second reader does.
func likeSecond(t *testing.T, line string) bool {
	t.Helper()
	want, ok := secondEvent(line)
	if !ok {
		noParse(t, head+line+"\nsync 0\n", headLines+1, api.ErrScript)
		noParse(t, head+"sync 1\n"+line+"\nwrong\n", headLines+2, api.ErrScript)
		return false
	}
	s := parsed(t, head+line+"\nsync 1\n")
	if !sameEvents(s.Events, []api.Event{want, {Kind: api.EvSync, Side: 1}}) {
		t.Fatalf("%q: %v, want %v", line, s.Events, want)
	}
	return true
}

func TestParseLines(t *testing.T) {
	for _, line := range goodLines {
		if !likeSecond(t, line) {
			t.Errorf("no line: %q", line)
		}
	}
	for _, line := range badLines {
		if likeSecond(t, line) {
			t.Errorf("a line: %q", line)
		}
	}
}

// Each of the 256 bytes in each form, within bytes and within a word.
func TestParseBytes(t *testing.T) {
	for b := range 256 {
		itself, escaped := string([]byte{byte(b)}), fmt.Sprintf(`\x%02X`, b)
		plain := b >= 0x20 && b <= 0x7e
		for _, x := range []struct {
			line string
			is   bool
		}{
			{`raw 0 "` + itself + `"`, plain && b != '"' && b != '\\'},
			{`raw 0 "a` + itself + `b"`, plain && b != '"' && b != '\\'},
			{`raw 0 "\` + itself + `"`, b == '"' || b == '\\' || b == 'r'},
			{`raw 0 "` + escaped + `"`, !plain && b != '\r'},
			{`raw 0 "a` + escaped + `b"`, !plain && b != '\r'},
			{`probe 0 ` + itself, b > 0x20 && b <= 0x7e && b != '"'},
			{`probe 0 a` + itself + `b`, b > 0x20 && b <= 0x7e && b != '"'},
		} {
			if b == '\n' && strings.Contains(x.line, "\n") {
				continue
			}
			if likeSecond(t, x.line) != x.is {
				t.Errorf("byte %02X: %q", b, x.line)
			}
		}
		low := fmt.Sprintf(`\x%02x`, b)
		if low != escaped {
			noParse(t, head+`raw 0 "`+low+`"`, headLines+1, api.ErrScript)
		}
	}
	noParse(t, head+"raw 0 \"\n\"\n", headLines+1, api.ErrScript)
}

// Each place of each kind missing, twice, and with numbers round its borders.
func TestParsePlaces(t *testing.T) {
	t.Parallel()
	m := newMaker(2201, 0)
	for _, r := range eventRows() {
		for range 20 {
			e := m.event()
			for int(e.Kind) != r.kind {
				e = m.event()
			}
			line := secondEventLine(e)
			likeSecond(t, line)
			words := strings.Split(line, " ")
			for i := range words {
				less := strings.Join(append(append([]string{}, words[:i]...), words[i+1:]...), " ")
				more := strings.Join(append(append(append([]string{}, words[:i+1]...), words[i]), words[i+1:]...), " ")
				for _, text := range []string{less, more, strings.Join(words[:i], " "), strings.Join(words[:i], " ") + " "} {
					likeSecond(t, text)
				}
			}
			for _, text := range []string{line + " ", " " + line, line + " 0", line + " x", line + ` ""`, strings.Replace(line, " ", "  ", 1), strings.Replace(line, " ", "\t", 1), strings.ToUpper(line)} {
				likeSecond(t, text)
			}
		}
	}
	for _, r := range eventPatterns {
		for i, p := range r.places {
			if !strings.HasPrefix(p.pattern(), " ("+numberPattern) {
				continue
			}
			for _, v := range []int{p.least - 2, p.least - 1, p.least, p.least + 1, p.most - 1, p.most, p.most + 1, p.most + 2} {
				line := r.word
				for k, q := range r.places {
					switch {
					case k == i:
						line += fmt.Sprintf(" %d", v)
					case q.name == "text":
						line += ` ""`
					case q.name == "control" || q.name == "code":
						line += " x"
					case q.name != "findings":
						line += fmt.Sprintf(" %d", q.least)
					}
				}
				if likeSecond(t, line) != (v >= p.least && v <= p.most) {
					t.Errorf("%q", line)
				}
			}
		}
	}
}

func TestParseSpoiltLines(t *testing.T) {
	t.Parallel()
	good := 0
	for seed := range seeds(300) {
		m := newMaker(2201, uint64(seed))
		for range 30 {
			line := secondEventLine(m.event())
			for range 1 + m.IntN(2) {
				line = m.spoilt(line)
			}
			if !strings.Contains(line, "\n") && likeSecond(t, line) {
				good++
			}
		}
	}
	if good < seeds(300) {
		t.Errorf("%d good ones", good)
	}
}

func TestParseFirstWrongLine(t *testing.T) {
	for _, x := range []struct {
		lines string
		at    int
	}{{"wrong\nwrong\n", 1}, {"sync 0\nwrong\nsync 2\n", 2}, {"sync 0\nsync 1\nsync 2\nsync 3", 3}, {"sync 0\nsync 0\nsync 0\n\n", 4}} {
		noParse(t, head+x.lines, headLines+x.at, api.ErrScript)
	}
}

func TestParseTooMany(t *testing.T) {
	full := head + strings.Repeat("sync 0\n", lastLine)
	if s := parsed(t, full); len(s.Events) != lastLine {
		t.Errorf("%d events", len(s.Events))
	}
	parsed(t, strings.TrimSuffix(full, "\n"))
	for _, more := range []string{"sync 0\n", "sync 0", "raw 0 \"\"\nsync 1\n", strings.Repeat("restart 1\n", 500), "sync 0\nwrong\n"} {
		noParse(t, full+more, headLines+lastLine+1, api.ErrMany)
	}
	noParse(t, full+"wrong\n", headLines+lastLine+1, api.ErrScript)
	noParse(t, full+"\n", headLines+lastLine+1, api.ErrScript)
	noParse(t, head+"wrong\n"+strings.Repeat("sync 0\n", lastLine+1), headLines+1, api.ErrScript)
	longer := "setup\n" + strings.Repeat("\n", 100) + setupText + "events\n"
	noParse(t, longer+strings.Repeat("sync 0\n", lastLine+1), headLines+100+lastLine+1, api.ErrMany)
	noParse(t, longer+"x", headLines+100+1, api.ErrScript)
}
