package world

import (
	"errors"
	"fmt"
	"strings"
	"testing"

	"courier/api"
	"courier/disk"
	"courier/engine"
)

// P2203: Run, told by scripts and reports. The messages' words are those of DOC.md's examples.

const (
	toDown = "crash 1 0 0 0 0\n"     // event 1: down 1
	toDead = "fuse 1 0\ncompact 1\n" // event 2: down 1
)

// quotes writes a message as a line's bytes.
func quotes(id, conditions string) string { return `"` + message(id, conditions) + `"` }

// frame writes it as a frame's.
func frame(id, conditions string) string { return `"` + framed(message(id, conditions)) + `"` }

// replied is a frame that side 1 lets out: an acknowledgement in enhanced mode, at the beginning.
func replied(code, id string) string { return repliedAt("20260105000000", code, id) }

func repliedAt(stamp, code, id string) string {
	return `"` + framed(`MSH|^~\\&|HIS||LAB||`+stamp+`||ACK^A01^ACK|`+code[:1]+id+`|P|2.5.1|||NE|NE\rMSA|`+code+`|`+id+`\r`) + `"`
}

func TestRunBeginning(t *testing.T) {
	for _, text := range []string{head, numbered()} {
		plays(t, text, "", "")
		seen := runs(t, parsed(t, text))
		if len(seen) != 1 || !sameList(seen[0], []api.Seen{{Kind: api.SeenUp}, {Kind: api.SeenUp, Side: 1}}) {
			t.Errorf("%v", seen)
		}
	}
}

// Each kind of event at a side that is up, down, and down with a dead disk.
func TestRunKindsByStates(t *testing.T) {
	full := `"` + strings.Repeat("x", 8195) + `"`
	for _, x := range []struct{ line, up, down, dead string }{
		{"submit 1 " + quotes("A1", "AL AL"), "", "refused 1 8", "refused 1 8"},
		{"submit 1 \"x\"", "refused 1 120", "refused 1 8", "refused 1 8"},
		{"submit 1 \"\"", "refused 1 120", "refused 1 8", "refused 1 8"},
		{"submit 1 " + quotes("A_1", "AL AL"), "refused 1 10", "refused 1 8", "refused 1 8"},
		{"verdict 1 A1 AA", "refused 1 360", "refused 1 8", "refused 1 8"},
		{"verdict 1 A1 ZZ", "refused 1 1", "refused 1 8", "refused 1 8"},
		{"verdict 1 A1 AA 207 - 0 0 0 0 0", "refused 1 1", "refused 1 8", "refused 1 8"},
		{"tick 1 1", "", "", ""},
		{"tick 1 100000", "", "", ""},
		{"tick 2 5", "", "", ""},
		{"tick 0 5", "", "", ""},
		{"sync 1", "", "refused 1 8", "refused 1 8"},
		{"compact 1", "", "refused 1 8", "refused 1 8"},
		{"fuse 1 -1", "", "", "refused 1 8"},
		{"fuse 1 0", "", "", "refused 1 8"},
		{"fuse 1 1000000", "", "", "refused 1 8"},
		{"crash 1 0 0 0 0", "down 1", "", ""},
		{"crash 1 16777216 16777216 16777216 16777216", "down 1", "", ""},
		{"restart 1", "refused 1 6", "up 1", "refused 1 8"},
		{"probe 1 P1", "refused 1 362", "refused 1 8", "refused 1 8"},
		{"probe 1 P_1", "refused 1 10", "refused 1 8", "refused 1 8"},
		{"resync 1 R1 1", "refused 1 362", "refused 1 8", "refused 1 8"},
		{"resync 1 R1 0", "refused 1 362", "refused 1 8", "refused 1 8"},
		{"carry 1 0 0", "refused 1 2", "refused 1 2", "refused 1 2"},
		{"carry 0 0 0", "refused 0 2", "refused 0 2", "refused 0 2"},
		{"carry 1 10000 10000", "refused 1 2", "refused 1 2", "refused 1 2"},
		{"drop 1 0", "refused 1 2", "refused 1 2", "refused 1 2"},
		{"double 1 0", "refused 1 2", "refused 1 2", "refused 1 2"},
		{"clip 1 0 1", "refused 1 2", "refused 1 2", "refused 1 2"},
		{"noise 1 \"x\"", "", "", ""},
		{"noise 1 \"\"", "refused 1 4", "refused 1 4", "refused 1 4"},
		{"noise 1 \"ab\\x0B\"", "refused 1 80", "refused 1 80", "refused 1 80"},
		{"noise 1 \"\\r\"", "refused 1 80", "refused 1 80", "refused 1 80"},
		{"noise 1 \"" + strings.Repeat("x", 64) + "\"", "", "", ""},
		{"noise 1 \"" + strings.Repeat("x", 65) + "\"", "refused 1 4", "refused 1 4", "refused 1 4"},
		{"raw 1 \"\\x0B\"", "", "", ""},
		{"raw 1 \"\"", "refused 1 4", "refused 1 4", "refused 1 4"},
		{"raw 1 " + full, "", "", ""},
		{"raw 1 " + full[:len(full)-1] + `x"`, "refused 1 4", "refused 1 4", "refused 1 4"},
	} {
		for _, s := range []struct {
			ahead, told string
			number      int
			want        string
		}{{"", "", 1, x.up}, {toDown, "1 down 1\n", 2, x.down}, {toDead, "2 down 1\n", 3, x.dead}} {
			want := s.told
			if s.want != "" {
				want += fmt.Sprintf("%d %s\n", s.number, s.want)
			}
			plays(t, head, s.ahead+x.line+"\n", want)
		}
	}
}

// What is refused changes nothing: the run goes on as without it.
func TestRunRefusedChangesNothing(t *testing.T) {
	plays(t, head, `
submit 0 `+quotes("A1", "AL AL")+`
submit 0 `+quotes("A1", "AL AL")+`
verdict 0 A1 AA
restart 0
sync 0
carry 0 1 0
carry 0 0 9999
carry 0 0 0
sync 1
verdict 1 A2 AA
verdict 1 A1 AA 101 - 0 0 0 0 0
verdict 1 A1 AA
verdict 1 A1 AA
sync 1
`, `
2 refused 0 6
3 refused 0 360
4 refused 0 6
5 out 0 `+frame("A1", "AL AL")+`
6 refused 0 2
7 refused 0 2
9 out 1 `+replied("CA", "A1")+`
9 deliver 1 A1 0 new `+quotes("A1", "AL AL")+`
10 refused 1 360
11 refused 1 1
13 refused 1 360
14 out 1 `+replied("AA", "A1")+`
`)
}

// The number is the outermost fault's.
func TestRunOutermostNumber(t *testing.T) {
	inner := &api.Fault{Layer: "wal", Code: api.ErrSpent, Under: api.ErrLong}
	got := orRefused(1, []api.Seen{oneUp}, &api.Fault{Layer: "engine", At: 9, Code: api.ErrFull, Under: inner})
	if !sameList(got, []api.Seen{{Kind: api.SeenRefused, Side: 1, Errno: api.ErrFull}}) {
		t.Errorf("%v", got)
	}
	if got := orRefused(1, []api.Seen{oneUp}, nil); !sameList(got, []api.Seen{oneUp}) {
		t.Errorf("%v", got)
	}
}

func TestRunEngineRefusals(t *testing.T) {
	many, told := "", ""
	for i := range 33 {
		many += fmt.Sprintf("submit 0 %s\n", quotes(fmt.Sprint("M", i), ""))
	}
	// Nine records fill the log of the setup: what waits leaves ahead of the tenth.
	for i := range 27 {
		told += fmt.Sprintf("%d out 0 %s\n", 10+i/9*9, frame(fmt.Sprint("M", i), ""))
	}
	plays(t, head, many, told+"33 refused 0 7\n")
	plays(t, numbered(), `
probe 1 P1
probe 0 P_1
resync 0 R1 0
resync 0 R1 2147483647
probe 0 P1
submit 0 `+quotes("R1", "AL AL")+`
submit 0 `+quotes("A1", "AL AL")+`
probe 0 P1
`, `
1 refused 1 362
2 refused 0 10
3 refused 0 1
4 out 0 "\x0BMSH|^~\\&|LAB||HIS||20260105000000||QRY^Q01|R1|P|2.5.1|-1\r\x1C\r"
5 refused 0 361
6 refused 0 6
8 refused 0 361
`)
}

// Clocks go on while a side is down, each by its own ticks.
func TestRunTicks(t *testing.T) {
	unknown := `raw 0 "` + `\x0B` + strings.Replace(message("B1", "AL AL"), "A01", "A02", 1) + `\x1C\r"`
	reply := func(stamp string) string {
		return `"` + `\x0B` + `MSH|^~\\&|HIS||LAB||` + stamp + `||ACK^A02^ACK|CB1|P|2.5.1|||NE|NE\rMSA|CR|B1\rERR||MSH^1^9^1|201^^HL70357|E\r\x1C\r"`
	}
	for _, x := range []struct{ lines, told, stamp string }{
		{"", "", "20260105000000"},
		{"tick 1 1\n", "", "20260105000001"},
		{"tick 1 100000\n", "", "20260106034640"},
		{"tick 2 9\n", "", "20260105000009"},
		{"tick 0 9\n", "", "20260105000000"},
		{"tick 2 9\ntick 1 1\ntick 0 5\n", "", "20260105000010"},
		{"crash 1 0 0 0 0\ntick 1 7\ntick 2 3\ntick 0 100\nrestart 1\n", "1 down 1\n5 up 1\n", "20260105000010"},
		{"tick 1 2\ncrash 1 0 0 0 0\ntick 1 7\nrestart 1\ntick 2 1\n", "2 down 1\n4 up 1\n", "20260105000010"},
		{"fuse 1 0\ncompact 1\ntick 1 7\ntick 2 3\ncrash 1 0 0 0 0\nrestart 1\n", "2 down 1\n6 up 1\n", "20260105000010"},
		{"crash 0 0 0 0 0\ntick 2 4\nrestart 0\n", "1 down 0\n3 up 0\n", "20260105000004"},
	} {
		at := strings.Count(x.lines, "\n") + 2
		plays(t, head, x.lines+unknown+"\ncarry 0 0 0\n", x.told+fmt.Sprintf("%d out 1 %s\n", at, reply(x.stamp)))
	}
}

// Ticks of both sides: side 0's answer, then side 1's; one that is down has none.
func TestRunTicksOfBoth(t *testing.T) {
	other := func(id string) string {
		return strings.Replace(strings.Replace(strings.Replace(quotes(id, "AL NE"), "LAB", "XXX", 1), "HIS", "LAB", 1), "XXX", "HIS", 1)
	}
	frames := func(text string) string {
		return strings.Replace(strings.TrimSuffix(text, `"`), `"`, `"\x0B`, 1) + `\x1C\r"`
	}
	begun := "submit 1 " + other("B1") + "\nsubmit 0 " + quotes("A1", "AL NE") + "\nsync 1\nsync 0\n"
	told := "3 out 1 " + frames(other("B1")) + "\n4 out 0 " + frame("A1", "AL NE") + "\n"
	plays(t, head, begun+"tick 2 5\ntick 1 5\nsync 1\n", told+
		"5 out 0 "+frame("A1", "AL NE")+"\n5 out 1 "+frames(other("B1"))+"\n7 answer 1 B1 failed -\n")
	plays(t, head, begun+"tick 2 4\ntick 0 1\ntick 1 1\n", told+
		"6 out 0 "+frame("A1", "AL NE")+"\n7 out 1 "+frames(other("B1"))+"\n")
	plays(t, head, begun+"crash 0 0 0 0 0\ntick 2 5\nrestart 0\ntick 2 5\n", told+
		"5 down 0\n6 out 1 "+frames(other("B1"))+"\n7 up 0\n7 out 0 "+frame("A1", "AL NE")+"\n8 out 0 "+frame("A1", "AL NE")+"\n")
	// A tick in which both disks die, and one in which one does.
	plays(t, head, begun+"tick 2 5\nfuse 0 0\nfuse 1 0\ntick 2 5\ntick 2 1\nsync 0\nsync 1\n", told+
		"5 out 0 "+frame("A1", "AL NE")+"\n5 out 1 "+frames(other("B1"))+"\n8 down 0\n8 down 1\n10 refused 0 8\n11 refused 1 8\n")
	plays(t, head, begun+"tick 2 5\nfuse 0 0\ntick 2 5\nsync 0\nsync 1\n", told+
		"5 out 0 "+frame("A1", "AL NE")+"\n5 out 1 "+frames(other("B1"))+"\n7 down 0\n8 refused 0 8\n9 answer 1 B1 failed -\n")
}

// Up to MaxTick, where no script comes.
func TestRunLatestTick(t *testing.T) {
	r, _ := begin(plainSetup())
	for side := range 2 {
		x := &r.sides[side]
		x.disk, x.clock = disk.New(), latest-7
		e, _, err := engine.New(r.setup, side, x.disk, x.clock)
		if err != nil {
			t.Fatal(err)
		}
		x.engine = e
	}
	nothing := func(e api.Event) {
		t.Helper()
		if seen := r.play(e); len(seen) != 0 {
			t.Fatalf("%v: %v", e, seen)
		}
	}
	clocks := func(first, second int) {
		t.Helper()
		for side, want := range []int{first, second} {
			x := r.sides[side]
			if x.clock != want || x.engine != nil && x.engine.Image().Now != want {
				t.Fatalf("side %d: %d, want %d", side, x.clock, want)
			}
		}
	}
	ticks := func(side, count int) { t.Helper(); nothing(api.Event{Kind: api.EvTick, Side: side, Count: count}) }
	r.play(api.Event{Kind: api.EvCrash, Side: 1})
	ticks(2, 6)
	clocks(latest-1, latest-1)
	ticks(0, 1)
	clocks(latest, latest-1)
	ticks(2, 1)
	clocks(latest, latest)
	ticks(2, 100000)
	ticks(1, 1)
	clocks(latest, latest)
	if seen := r.play(api.Event{Kind: api.EvRestart, Side: 1}); !sameList(seen, []api.Seen{oneUp}) {
		t.Fatalf("%v", seen)
	}
	ticks(1, 100000)
	clocks(latest, latest)
	if seen := r.play(api.Event{Kind: api.EvCrash, Side: 0}); len(seen) != 1 {
		t.Fatalf("%v", seen)
	}
	ticks(0, 5)
	r.sides[0].clock = latest - 2
	ticks(2, 100000)
	clocks(latest, latest)
}

// A restart that engine.Open refuses: the side stays down.
func TestRunRestartRefused(t *testing.T) {
	r, _ := begin(plainSetup())
	r.play(api.Event{Kind: api.EvCrash, Side: 1})
	r.sides[1].disk = disk.New() // no ledger stands on it
	_, _, err := engine.Open(r.setup, 1, disk.New(), 0)
	var f *api.Fault
	if !errors.As(err, &f) {
		t.Fatal(err)
	}
	for range 2 {
		if seen := r.play(api.Event{Kind: api.EvRestart, Side: 1}); !sameList(seen, []api.Seen{{Kind: api.SeenRefused, Side: 1, Errno: f.Code}}) {
			t.Fatalf("%v, want %d", seen, f.Code)
		}
	}
	if seen := r.play(api.Event{Kind: api.EvSync, Side: 1}); !sameList(seen, []api.Seen{{Kind: api.SeenRefused, Side: 1, Errno: api.ErrDead}}) {
		t.Fatalf("%v", seen)
	}
}

// A restart in which the disk dies.
func TestRunRestartDies(t *testing.T) {
	plays(t, head, `
submit 1 `+quotes("A1", "")+`
crash 1 5 0 5 0
fuse 1 0
restart 1
restart 1
fuse 1 -1
sync 1
crash 1 0 0 0 0
restart 1
sync 1
`, `
2 down 1
4 down 1
5 refused 1 8
6 refused 1 8
7 refused 1 8
9 up 1
`)
}

// A fuse that is put in, changed, taken out; a crash takes it out too.
func TestRunFuse(t *testing.T) {
	plays(t, head, "fuse 0 1\nsubmit 0 "+quotes("A1", "")+"\nsync 0\ncrash 0 16777216 0 16777216 0\nrestart 0\nsync 0\n", "3 down 0\n5 up 0\n5 out 0 "+frame("A1", "")+"\n")
	plays(t, head, "fuse 0 0\nfuse 0 2\nsubmit 0 "+quotes("A1", "")+"\nsync 0\nsync 0\n", "4 out 0 "+frame("A1", "")+"\n5 down 0\n")
	plays(t, head, "fuse 0 0\nfuse 0 -1\nsubmit 0 "+quotes("A1", "")+"\nsync 0\n", "4 out 0 "+frame("A1", "")+"\n")
	plays(t, head, "fuse 0 0\ncrash 0 0 0 0 0\nrestart 0\nsubmit 0 "+quotes("A1", "")+"\nsync 0\n", "2 down 0\n3 up 0\n5 out 0 "+frame("A1", "")+"\n")
	// One side's fuse is nothing to the other.
	plays(t, head, "fuse 0 0\nsubmit 1 "+quotes("A1", "")+"\nsync 1\nsync 0\n", "3 out 1 "+frame("A1", "")+"\n4 down 0\n")
}

// Pieces that arrive whole, in parts, at a side that is up, and at one that is down.
func TestRunCarry(t *testing.T) {
	raw := "raw 0 " + frame("A1", "AL AL") + "\n"
	told := func(at int) string {
		return fmt.Sprintf("%d out 1 %s\n%d deliver 1 A1 0 new %s\n", at, replied("CA", "A1"), at, quotes("A1", "AL AL"))
	}
	size := len(plainMessage("A1", "AL AL")) + 3
	plays(t, head, raw+"carry 0 0 0\nsync 1\ncarry 0 0 0\n", told(3)+"4 refused 0 2\n")
	plays(t, head, raw+fmt.Sprintf("carry 0 0 %d\nsync 1\n", size), told(3))
	plays(t, head, raw+fmt.Sprintf("carry 0 0 %d\ncarry 0 0 0\nsync 1\n", size+1), "2 refused 0 2\n"+told(4))
	plays(t, head, raw+"carry 0 0 1\nsync 1\ncarry 0 0 7\nnoise 0 \"x\"\ncarry 0 1 0\ncarry 0 0 0\ncarry 0 0 0\nsync 1\n", "6 refused 0 2\n"+told(9))
	// Byte by byte.
	bytewise := strings.Repeat("carry 0 0 1\n", size)
	plays(t, head, raw+bytewise+"sync 1\n", told(size+2))
	plays(t, head, raw+"double 0 0\ndrop 0 0\ncarry 0 0 0\nsync 1\n", told(5))
	// What was clipped is no frame; what comes behind it is one.
	plays(t, head, raw+raw+"clip 0 0 20\ncarry 0 0 0\ncarry 0 0 0\nsync 1\n", told(6))
	plays(t, head, raw+"clip 0 0 0\nclip 0 1 1\nclip 0 0 9999\ndouble 0 1\ndrop 0 1\ncarry 0 0 0\nsync 1\n", "2 refused 0 2\n3 refused 0 2\n4 refused 0 2\n5 refused 0 2\n6 refused 0 2\n"+told(8))
	// At a side that is down it is gone.
	plays(t, head, raw+toDown+"carry 0 0 0\ncarry 0 0 0\nrestart 1\nsync 1\n", "2 down 1\n4 refused 0 2\n5 up 1\n")
	plays(t, head, raw+toDead+"carry 0 0 0\ncarry 0 0 0\n", "3 down 1\n5 refused 0 2\n")
	// What of a piece arrived while the side was down is gone; and what arrived ahead of the crash.
	plays(t, head, raw+"double 0 0\ncarry 0 0 20\n"+toDown+"carry 0 0 5\nrestart 1\ncarry 0 0 0\nsync 1\ncarry 0 0 0\nsync 1\n", "4 down 1\n6 up 1\n"+told(10))
	plays(t, head, raw+toDown+"carry 0 0 1\nrestart 1\ncarry 0 0 0\nsync 1\n", "2 down 1\n4 up 1\n")
	// A sender that is down has its pieces under way all the same.
	plays(t, head, raw+"crash 0 0 0 0 0\ncarry 0 0 0\nsync 1\n", "2 down 0\n"+told(4))
	// Noise ahead of a frame, and what is sent back.
	plays(t, head, "noise 0 \"noise\"\n"+raw+"carry 0 0 0\ncarry 0 0 0\nsync 1\ncarry 1 0 0\nsync 0\n", told(5))
}

// Frames that find no room under way are lost, and are told so behind themselves.
func TestRunLost(t *testing.T) {
	t.Parallel()
	fill := func(side, count int) string {
		return strings.Repeat(fmt.Sprintf("raw %d \"x\"\n", side), count)
	}
	two := "submit 0 " + quotes("A1", "") + "\nsubmit 0 " + quotes("A2", "") + "\nsync 0\n"
	one, other := "out 0 "+frame("A1", "")+"\n", "out 0 "+frame("A2", "")+"\n"
	plays(t, head, fill(0, 254)+two, "257 "+one+"257 "+other)
	plays(t, head, fill(0, 255)+two, "258 "+one+"258 "+other+"258 lost 0\n")
	plays(t, head, fill(0, 256)+two, "259 "+one+"259 lost 0\n259 "+other+"259 lost 0\n")
	plays(t, head, fill(0, 257)+"drop 0 255\n"+two, "257 refused 0 7\n261 "+one+"261 "+other+"261 lost 0\n")
	plays(t, head, fill(0, 256)+"noise 0 \"x\"\ndouble 0 0\ncarry 0 0 0\ndouble 0 0\n", "257 refused 0 7\n258 refused 0 7\n")
	// The other direction is another one.
	plays(t, head, fill(1, 256)+two, "259 "+one+"259 "+other)
	// In its place: ahead of the delivery that was made behind it.
	plays(t, head, "raw 0 "+frame("A1", "AL AL")+"\n"+fill(1, 256)+"carry 0 0 0\nsync 1\n",
		"259 out 1 "+replied("CA", "A1")+"\n259 lost 1\n259 deliver 1 A1 0 new "+quotes("A1", "AL AL")+"\n")
	// A tick of both: each frame's loss behind it, side 0 first.
	plays(t, head, two+fill(0, 254)+"tick 2 5\n", "3 "+one+"3 "+other+"258 "+one+"258 lost 0\n258 "+other+"258 lost 0\n")
	// The arrival that makes room at the sender's direction is ahead of what it brings.
	plays(t, head, `raw 1 "\x0BMSH|^~\\&|HIS||LAB||2026||ADT^A02|B1|P|2.5.1|||AL|AL\r\x1C\r"`+"\n"+fill(0, 256)+"carry 1 0 0\n",
		`258 out 0 "\x0BMSH|^~\\&|LAB||HIS||20260105000000||ACK^A02^ACK|CB1|P|2.5.1|||NE|NE\rMSA|CR|B1\rERR||MSH^1^9^1|201^^HL70357|E\r\x1C\r"`+"\n258 lost 0\n")
}

// Crashes with each kind of tear, of what was written and not made durable.
func TestRunTears(t *testing.T) {
	two := "submit 0 " + quotes("A1", "") + "\nsubmit 0 " + quotes("A2", "") + "\n"
	one, other := "out 0 "+frame("A1", "")+"\n", "out 0 "+frame("A2", "")+"\n"
	for _, x := range []struct{ tears, told string }{
		{"0 0 0 0", ""},
		{"0 16777216 0 16777216", ""},
		{"16777216 16777216 16777216 16777216", "4 " + one + "4 " + other},
		{"16777216 0 16777216 0", "4 " + one + "4 " + other},
		{"1 0 1 0", ""},
		{"120 0 120 0", "4 " + one},
		{"120 9999 120 9999", "4 " + one},
	} {
		plays(t, head, two+"crash 0 "+x.tears+"\nrestart 0\n", "3 down 0\n4 up 0\n"+x.told)
	}
	// What was synced stays, whatever the tears are; a second crash takes nothing more.
	for _, tears := range []string{"0 0 0 0", "1 1 1 1", "16777216 0 0 0"} {
		plays(t, head, two+"sync 0\ncrash 0 "+tears+"\ncrash 0 "+tears+"\nrestart 0\n", "3 "+one+"3 "+other+"4 down 0\n6 up 0\n6 "+one+"6 "+other)
	}
}
