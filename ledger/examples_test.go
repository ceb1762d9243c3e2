package ledger

import (
	"errors"
	"testing"

	"courier/api"
	"courier/disk"
)

// The chapter's examples, on tables and on a Ledger at once.
func TestExamples(t *testing.T) {
	terms := api.Terms{Sends: true, Takes: true, Keep: 2}
	x, err := Begin(terms)
	if err != nil || x.Next != 1 || x.Expects != 1 {
		t.Fatalf("Begin: %+v, %v", x, err)
	}
	d, l := formatted(t, terms)
	write := func(r api.Record, may bool) {
		t.Helper()
		y, err := Apply(terms, x, r)
		no := l.Write(r)
		if may {
			done(t, err, no)
			x = y
		} else {
			refused(t, "Apply", err, api.ErrBook, 0)
			refused(t, "Write", no, api.ErrBook, 0)
		}
		if !isSame(l.Tables(), x) {
			t.Fatalf("%+v, want %+v", l.Tables(), x)
		}
	}
	write(api.Record{Kind: api.RecOut, Control: "a", Text: []byte("m")}, true)
	write(api.Record{Kind: api.RecNumber, Control: "a", Number: 1}, true)
	if x.Next != 2 {
		t.Errorf("Next %d", x.Next)
	}
	write(api.Record{Kind: api.RecNumber, Control: "b", Number: 2}, false)
	write(api.Record{Kind: api.RecNext, Number: 7}, false)
	write(api.Record{Kind: api.RecFinal, Control: "a", State: api.WantAnswered, Code: "AA"}, true)
	if len(x.Out) != 0 {
		t.Errorf("Out %v", x.Out)
	}
	write(api.Record{Kind: api.RecIn, Control: "x", Text: []byte("m"), Number: 2}, false)
	write(api.Record{Kind: api.RecIn, Control: "x", Text: []byte("m"), Number: 1}, true)
	if x.Expects != 2 || x.Last != 1 {
		t.Errorf("Expects %d, Last %d", x.Expects, x.Last)
	}
	write(api.Record{Kind: api.RecOpen, Control: "r"}, true)
	if x.Expects != 0 || x.Reset != "r" {
		t.Errorf("Expects %d, Reset %q", x.Expects, x.Reset)
	}
	write(api.Record{Kind: api.RecOpen, Control: "r"}, false)
	_, err = l.Sync()
	done(t, err)
	d.Crash([2]api.Tear{})
	k, err := Open(d, terms)
	if err != nil || !isSame(k.Tables(), x) {
		t.Errorf("Open: %v", err)
	}
}

func TestExamplesOfBytes(t *testing.T) {
	b, err := Encode(api.Record{Kind: api.RecCommit, Control: "a"})
	if err != nil || string(b) != "\x03\x00\x00\x00\x01\x61" {
		t.Errorf("% X, %v", b, err)
	}
	_, err = Decode([]byte("\x03\x00\x00\x00\x01"))
	refused(t, "Decode", err, api.ErrForm, 5)
	_, err = Decode([]byte("\x09"))
	refused(t, "Decode", err, api.ErrForm, 0)
	_, err = Encode(api.Record{Kind: api.RecCommit, Control: "a", Number: 1})
	refused(t, "Encode", err, api.ErrBook, 5)
	l, err := Open(disk.New(), api.Terms{Keep: 1})
	passed(t, "Open", err, api.ErrNoLog, api.ErrNoLog)
	if l != nil || !errors.Is(err, api.ErrNoLog) {
		t.Errorf("%v, %v", l, err)
	}
}
