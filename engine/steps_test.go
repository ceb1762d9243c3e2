package engine

import (
	"fmt"
	"math"
	"reflect"
	"strconv"
	"strings"
	"testing"

	"courier/api"
)

// The steps' own refusals: P1803 to P1805, P1808 to P1810.

// steps are all calls that answer an error, each with arguments that are wrong in every way but the first.
func steps() map[string]func(e *Engine) ([]api.Seen, error) {
	return map[string]func(e *Engine) ([]api.Seen, error){
		"Submit":  submitting("nothing"),
		"Verdict": judging("", "", make([]api.Finding, 9)),
		"Arrive":  arriving(make([]byte, longest+4)),
		"Tick":    ticking(0),
		"Sync":    (*Engine).Sync,
		"Compact": (*Engine).Compact,
		"Probe":   probing(""),
		"Resync":  resyncing("", 0),
	}
}

func TestUnmadeEngine(t *testing.T) {
	var none *Engine
	for what, e := range map[string]*Engine{"nil": none, "plain": {}} {
		for name, step := range steps() {
			seen, err := step(e)
			if len(seen) != 0 {
				t.Errorf("%s of a %s engine: %v", name, what, seen)
			}
			isFault(t, name+" of a "+what+" engine", err, api.ErrZero, 0)
		}
		if e.Alive() || !reflect.DeepEqual(e.Image(), api.EngineImage{}) {
			t.Errorf("a %s engine is something", what)
		}
	}
}

func TestDeadEngine(t *testing.T) {
	r := startAt(t, pair(), 1, 8)
	r.submit(always("B1"))
	r.d.Fuse(0)
	r.sync("down")
	for name, step := range steps() {
		seen, err := step(r.e)
		if len(seen) != 0 {
			t.Errorf("%s: %v", name, seen)
		}
		isFault(t, name+" of a dead engine", err, api.ErrDead, 0)
	}
	// It stays so, though the disk comes back.
	r.d.Crash([2]api.Tear{})
	_, err := r.e.Sync()
	isFault(t, "Sync of a dead engine", err, api.ErrDead, 0)
	if r.e.Alive() || !reflect.DeepEqual(r.e.Image(), api.EngineImage{Now: 8}) {
		t.Errorf("image %+v", r.e.Image())
	}
}

func TestSubmitIsRefusedByTree(t *testing.T) {
	r := start(t, pair(), 0)
	for _, c := range []struct {
		text string
		code api.Errno
		at   int
	}{
		{"", api.ErrNoMSH, 0},
		{"MSH|^~^&", api.ErrNoMSH, 6},
		{"FHS|^~\\&", api.ErrNoMSH, 0},
		{"MSH|^~\\&\rPIDX", api.ErrSegName, 12},
		{"MSH|^~\\&\rMSH|", api.ErrSecond, 9},
		{"MSH|^~\\&|a\\Q\\b", api.ErrWire, 10},
		{"MSH|^~\\&|" + strings.Repeat("~", 32), api.ErrMany, 41},
		{strings.Repeat("x", longest+1), api.ErrLong, 0},
		// Its MSA, MSH-10 and MSH-13 would be wrong, too.
		{"MSH|^~\\&||||||||||||\t\rMSA", api.ErrWire, 20},
	} {
		before := diskText(r.d)
		seen, err := r.e.Submit([]byte(c.text))
		if len(seen) != 0 || diskText(r.d) != before {
			t.Errorf("%q: %v", c.text, seen)
		}
		isUnder(t, c.text, err, "tree", c.code, c.at)
	}
}

func TestSubmitIsRefused(t *testing.T) {
	r := start(t, pair(), 0)
	for _, c := range []struct {
		text string
		code api.Errno
		at   int
	}{
		{message("A1", "", "AL", "AL", "MSA|AA|A1"), api.ErrForm, 0},
		{message("", "7", "XX", "XX", "MSA"), api.ErrForm, 0},
		{message("", "", "", ""), api.ErrForm, 10},
		{message("A 1", "7", "XX", "XX"), api.ErrForm, 10},
		{message("A_1", "", "", ""), api.ErrForm, 10},
		{message("@", "", "", ""), api.ErrForm, 10},
		{message("[", "", "", ""), api.ErrForm, 10},
		{message("`", "", "", ""), api.ErrForm, 10},
		{message("{", "", "", ""), api.ErrForm, 10},
		{message("/", "", "", ""), api.ErrForm, 10},
		{message(":", "", "", ""), api.ErrForm, 10},
		{message(",", "", "", ""), api.ErrForm, 10},
		{message("\xff", "", "", ""), api.ErrForm, 10},
		{message("1234567890123456789", "", "", ""), api.ErrForm, 10},
		{message("A1~A2", "", "", ""), api.ErrForm, 10},
		{message("A1^A2", "", "", ""), api.ErrForm, 10},
		{message("A1&A2", "", "", ""), api.ErrForm, 10},
		{message("&A1", "", "", ""), api.ErrForm, 10},
		{message("~A1", "", "", ""), api.ErrForm, 10},
		{message("\\H\\", "", "", ""), api.ErrForm, 10},
		{message("A1", "1", "", ""), api.ErrForm, 13},
		{message("A1", "0", "XX", "XX"), api.ErrForm, 13},
		{message("A1", "^1", "", ""), api.ErrForm, 13},
		{message("A1", "&\\H\\", "", ""), api.ErrForm, 13},
		{message("A1", "\\H\\~1", "", ""), api.ErrForm, 13},
		{message("A1", "", "XX", "YY"), api.ErrForm, 15},
		{message("A1", "", "al", "AL"), api.ErrForm, 15},
		{message("A1", "", "AL^AL", "AL"), api.ErrForm, 15},
		{message("A1", "", "^\\H\\", "AL"), api.ErrForm, 15},
		{message("A1", "", "AL", "YY"), api.ErrForm, 16},
		{message("A1", "", "", "AL~AL"), api.ErrForm, 16},
		{message("A1", "", "AL", "\"\""), api.ErrForm, 16},
	} {
		r.refuses(c.text, submitting(c.text), c.code, c.at)
	}
}

// padded gives a message of that many bytes, its last CR counted.
func padded(id string, size int) string {
	empty := len(message(id, "", "AL", "AL", "PID|"))
	return message(id, "", "AL", "AL", "PID|"+strings.Repeat("p", size-empty))
}

func TestSubmitIsTooLong(t *testing.T) {
	r := start(t, pair(), 0)
	// Without its last CR the text is one that layer 6 takes.
	cut := strings.TrimSuffix(padded("A1", longest+1), "\r")
	r.refuses("one byte too many", submitting(cut), api.ErrLong, 13)
	r.submit(padded("A1", longest))
	r.sync("out " + padded("A1", longest))
	r.submit(strings.TrimSuffix(padded("A2", longest), "\r"))
	r.sync("out " + padded("A2", longest))
	// It comes ahead of what else is wrong with it beside others.
	r.refuses("too long ahead of twice", submitting(cut), api.ErrLong, 13)

	r = start(t, numbers(), 0)
	r.refuses("no room for ten digits", submitting(padded("A1", longest-9)), api.ErrLong, 13)
	r.refuses("one byte too many", submitting(cut), api.ErrLong, 13)
	r.submit(padded("A1", longest-10))
	r.sync("out " + withNumber(padded("A1", longest-10), 1))
}

// Texts are what they stand for: an escape may write a control id or a condition, or nothing.
func TestSubmitReadsTexts(t *testing.T) {
	r := start(t, numbers(), 0)
	text := message("A\\X31\\", "\\H\\", "\\X414C\\", "\\N\\")
	r.submit(text)
	x := r.e.Image().Tables.Out[0]
	if x.Control != "A1" || x.Cond != (api.Conditions{Enhanced: true, Accept: api.CondAL}) || string(x.Text) != text {
		t.Errorf("submitted: %+v", x)
	}
	r.sync("out " + message("A\\X31\\", "1", "\\X414C\\", "\\N\\"))
	r = start(t, pair(), 0)
	r.submit(text)
	r.sync("out " + message("A\\X31\\", "", "\\X414C\\", "\\N\\"))
	// Other marks than the setup's, and empty ends that are left out.
	r.submit("MSH#*+!$#LAB######ADT*A01#A2#P#2.5.1######\rPID#a|b##\r")
	r.sync("out MSH#*+!$#LAB######ADT*A01#A2#P#2.5.1\rPID#a|b\r")
	if id := r.e.Image().Tables.Out[1].Control; id != "A2" {
		t.Errorf("control id %q", id)
	}
	for _, id := range []string{"A", "Z", "a", "z", "0", "9", ".", "-", "123456789012345678", "Az09.-"} {
		r := start(t, pair(), 0)
		r.submit(original(id))
		if got := r.e.Image().Tables.Out[0].Control; got != id {
			t.Errorf("control id %q, want %q", got, id)
		}
	}
}

func TestSubmitTwiceFullSpent(t *testing.T) {
	r := start(t, roomy(pair()), 0)
	for i := range 32 {
		r.submit(original("A" + strconv.Itoa(i)))
	}
	r.refuses("twice ahead of full", submitting(always("A31")), api.ErrTwice, 10)
	r.refuses("full", submitting(always("A32")), api.ErrFull, 0)
	r.refuses("its form ahead of both", submitting(message("A31", "", "", "XX")), api.ErrForm, 16)
	r.arrive(heard("AA", "A7", ""))
	r.submit(always("A7"))
	r.refuses("full again", submitting(always("A32")), api.ErrFull, 0)

	r = start(t, roomy(numbers()), 0)
	r.resync("R1", top, "out MSH|^~\\&|LAB||HIS||20260105000000||QRY^Q01|R1|P|2.5.1|-1\r")
	r.refuses("the link message's control id", submitting(always("R1")), api.ErrTwice, 10)
	r.arrive(heard("AA", "R1", ""))
	r.submit(original("A0"))
	r.refuses("twice ahead of spent", submitting(original("A0")), api.ErrTwice, 10)
	r.refuses("spent", submitting(original("A1")), api.ErrSpent, 0)
	r.arrive(heard("AA", "A0", ""))
	r.refuses("spent though nothing is outstanding", submitting(original("A1")), api.ErrSpent, 0)

	// Thirty-two wait, and none has a number left: full comes ahead of spent.
	r = start(t, roomy(numbers()), 0)
	for i := range 32 {
		r.submit(original("A" + strconv.Itoa(i)))
	}
	r.arrive(heard("AE", "A0", "||2147483647", "ERR|||207"))
	if next := r.e.Image().Tables.Next; next != 0 {
		t.Fatalf("next is %d", next)
	}
	r.refuses("full ahead of spent", submitting(original("B")), api.ErrFull, 0)
}

func TestVerdictIsRefused(t *testing.T) {
	r := start(t, pair(), 1)
	one := []api.Finding{{Code: 207}}
	many := make([]api.Finding, 9)
	for i := range many {
		many[i] = one[0]
	}
	r.arrive(framed(original("A1")))
	r.refuses("not delivered yet", judging("A1", "AA", nil), api.ErrSide, 1)
	r.sync("deliver A1 0 new " + original("A1"))
	for _, c := range []string{"", "CA", "CE", "CR", "aa", "AB", "AA ", "\"\""} {
		r.refuses("code "+c, judging("none", c, many), api.ErrArg, 2)
	}
	r.refuses("findings with AA", judging("none", "AA", one), api.ErrArg, 3)
	r.refuses("nine findings", judging("none", "AE", many), api.ErrArg, 3)
	for _, f := range []api.Finding{
		{}, {Code: 99}, {Code: 104}, {Code: 199}, {Code: 208}, {Code: 0},
		{Code: 100, Seg: "PID"}, {Code: 100, Occur: 1}, {Code: 100, Seg: "pid", Occur: 1},
		{Code: 100, Seg: "PID", Occur: 129}, {Code: 100, Seg: "PID", Occur: 1, Field: 67},
		{Code: 100, Seg: "PID", Occur: 1, Rep: 1}, {Code: 100, Seg: "PID", Occur: 1, Field: -1},
		{Code: 100, Seg: "PID", Occur: 1, Field: 1, Rep: 33}, {Code: 100, Seg: "PID", Occur: 1, Field: 1, Rep: 1, Comp: 33},
		{Code: 100, Seg: "PID", Occur: 1, Field: 1, Rep: 1, Comp: 1, Sub: 17}, {Code: 100, Seg: "PID", Occur: 1, Field: 1, Rep: 1, Sub: 1},
		{Code: math.MaxInt},
	} {
		r.refuses(fmt.Sprint(f), judging("none", "AR", []api.Finding{one[0], f}), api.ErrArg, 3)
	}
	for _, id := range []string{"", "A2", "a1", "A1 ", "none"} {
		r.refuses("a verdict for "+id, judging(id, "AE", many[:8]), api.ErrSide, 1)
	}
	r.verdict("A1", "AE", many[:8])
	r.refuses("a second verdict", judging("A1", "AA", nil), api.ErrSide, 1)
}

func TestArriveIsTooLong(t *testing.T) {
	r := start(t, pair(), 1)
	r.refuses("one byte too many", arriving(make([]byte, longest+4)), api.ErrLong, 0)
	r.arrive(make([]byte, longest+3))
	if got := r.e.Image().Frame.Garbage; got != longest+3 {
		t.Errorf("garbage %d", got)
	}
	r.arrive(nil)
}

func TestTickIsRefused(t *testing.T) {
	r := start(t, pair(), 1)
	for _, n := range []int{0, -1, api.MaxTicks + 1, math.MaxInt, math.MinInt} {
		r.refuses(strconv.Itoa(n), ticking(n), api.ErrArg, 0)
	}
	r.tick(1)
	r.tick(api.MaxTicks)
	if now := r.e.Image().Now; now != 1+api.MaxTicks {
		t.Errorf("now %d", now)
	}
}

func TestLinkIsRefused(t *testing.T) {
	off, on := start(t, pair(), 0), start(t, numbers(), 0)
	for _, id := range []string{"", "A 1", "1234567890123456789", "A_", "\x00"} {
		off.refuses("probe "+id, probing(id), api.ErrForm, 0)
		off.refuses("resync "+id, resyncing(id, 0), api.ErrForm, 0)
	}
	off.submit(always("A1"))
	off.refuses("no sequencing, and busy", probing("P1"), api.ErrOff, 0)
	off.refuses("no sequencing, and busy", resyncing("P1", 0), api.ErrOff, 0)
	// The other side's sequencing is not this one's.
	other := start(t, numbers(), 1)
	other.refuses("the other side's", probing("P1"), api.ErrOff, 0)

	on.submit(always("A1"))
	on.refuses("outstanding", probing("P1"), api.ErrBusy, 0)
	on.refuses("outstanding", resyncing("P1", 0), api.ErrBusy, 0)
	on.arrive(heard("CE", "A1", ""))
	for _, next := range []int{0, -1, top + 1, math.MaxInt, math.MinInt} {
		on.refuses("next "+strconv.Itoa(next), resyncing("P1", next), api.ErrArg, 2)
	}
	on.probe("A1")
	on.refuses("a link message is under way", probing("P2"), api.ErrBusy, 0)
	on.refuses("a link message is under way", resyncing("P2", 0), api.ErrBusy, 0)
	for _, next := range []int{1, top} {
		r := start(t, numbers(), 0)
		r.resync("R1", next, "out MSH|^~\\&|LAB||HIS||20260105000000||QRY^Q01|R1|P|2.5.1|-1\r")
	}
}
