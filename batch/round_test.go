package batch

import (
	"math/rand/v2"
	"slices"
	"strings"
	"testing"

	"courier/api"
	"courier/tree"
)

// P2003; P2006: there and back.

// backAndForth holds what follows for a text of fewer than MaxFile bytes that Parse takes.
func backAndForth(t *testing.T, text string) {
	t.Helper()
	f, err := Parse(text)
	if err != nil {
		t.Fatalf("P2001: Parse(%.300q): %v", text, err)
	}
	again, err := Print(f)
	if err != nil {
		t.Fatalf("P2006: Print(Parse(%.300q)): %v", text, err)
	}
	g, err := Parse(again)
	if err != nil || shape(g) != shape(f) {
		t.Fatalf("P2006: Parse(Print(Parse(%.300q))): %s, %v, want %s", text, shape(g), err, shape(f))
	}
	if once, err := Print(g); err != nil || once != again {
		t.Fatalf("P2006: %.300q is written as %.300q, and then as %.300q", text, again, once)
	}
	l, err := Split(text)
	l2, err2 := Split(again)
	if err != nil || err2 != nil || !slices.Equal(l, l2) {
		t.Fatalf("P2003: Split(%.300q): %q, %v, but %q, %v", text, l, err, l2, err2)
	}
}

func TestP2003Splits(t *testing.T) {
	for text, want := range map[string][]string{
		msgA:                            {msgA},
		msgA + msgB + msgA:              {msgA, msgB, msgA},
		textOf("BMiM") + msgB + "BTS|3": {msgA + "PID|1\r", msgA, msgB},
		textOf("FBMTB") + msgB + msgA + "PID\r" + textOf("TBMT") + "FTS|3": {msgA, msgB, msgA + "PID\r", msgA},
		head + "|A||\rPID|": {msgA + "PID\r"},
	} {
		if l, err := Split(text); err != nil || !slices.Equal(l, want) {
			t.Errorf("P2003: Split(%q): %q, %v, want %q", text, l, err, want)
		}
	}
}

// TestP2006Texts: texts that are no one form, and what becomes of them.
func TestP2006Texts(t *testing.T) {
	for text, want := range map[string]string{
		head + "|A": msgA,
		"FHS|^~\\&||\rBHS|^~\\&|X^\r" + head + "|A|\rPID|\rBTS|1^|\rFTS|": "FHS|^~\\&\rBHS|^~\\&|X\r" + msgA + "PID\rBTS|1\rFTS\r",
		textOf("FBMMiTBMTZ"): textOf("FBMMiTBMTZ"),
		textOf("BMT"):        textOf("BMT"),
	} {
		backAndForth(t, text)
		f, err := Parse(text)
		if err != nil {
			t.Fatal(err)
		}
		if again, err := Print(f); err != nil || again != want {
			t.Errorf("P2006: Print(Parse(%q)) is %q, %v", text, again, err)
		}
	}
}

// TestP2006MaxFile: a text of MaxFile bytes may be one byte longer in its one form; one of fewer is never too long.
func TestP2006MaxFile(t *testing.T) {
	backAndForth(t, longFile(mostFile))
	backAndForth(t, strings.TrimSuffix(longFile(mostFile), "\r"))
	f, err := Parse(strings.TrimSuffix(longFile(mostFile+1), "\r"))
	if err != nil {
		t.Fatal(err)
	}
	refusesFile(t, "MaxFile bytes without the last CR", f, no(api.ErrLong, 0))
	backAndForth(t, many(64, 4))
	backAndForth(t, strings.TrimSuffix(many(64, 4), "\r"))
}

// TestP2006Wrapped: Answer's batch, wrapped, is a file again; a file's messages, wrapped anew, are the same.
func TestP2006Wrapped(t *testing.T) {
	r := rand.New(rand.NewPCG(20, 7))
	for range 2000 {
		f := someFile(r, 0)
		text, err := Print(f)
		if err != nil {
			t.Fatal(err)
		}
		var batches [][]string
		for _, b := range f.Batches {
			batches = append(batches, b.Messages)
		}
		m, _ := tree.Parse([]byte(batches[0][0]))
		wrapped, err := Wrap(m.Marks, "A", "", "2026", "C", batches)
		if err != nil {
			t.Fatalf("P2004: %v", err)
		}
		l, err := Split(wrapped)
		l2, err2 := Split(text)
		if err != nil || err2 != nil || !slices.Equal(l, l2) || !slices.Equal(l, slices.Concat(batches...)) {
			t.Fatalf("P2006: Split(Wrap): %q, %v; Split(Print): %q, %v", l, err, l2, err2)
		}
		backAndForth(t, wrapped)
		if g, err := Parse(wrapped); err != nil || len(g.Batches) != len(batches) {
			t.Fatalf("P2006: Parse(Wrap): %v", err)
		}
	}
	b, err := Answer(three(), 1, []string{ackOf("B3"), ackOf("B2")})
	if err != nil {
		t.Fatal(err)
	}
	writes(t, "answers", api.File{Batches: []api.Batch{b}}, ackOf("B2")+ackOf("B3"))
}
