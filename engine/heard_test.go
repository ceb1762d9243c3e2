package engine

import (
	"slices"
	"strconv"
	"testing"

	"courier/api"
)

// DOC.md: what an initiator does with an acknowledgement.

// owed gives an engine with A1 under way, by these conditions.
func owed(t *testing.T, s api.Setup, conditions string) *rig {
	t.Helper()
	r := start(t, roomy(s), 0)
	r.submit(of("A1", "", conditions))
	r.e.Sync()
	return r
}

// 1: strange are those that layer 10 does not read, for nobody, or with a code that cannot come.
func TestStrange(t *testing.T) {
	for _, p := range [][]byte{
		heard("ZZ", "A1", ""), heard("", "A1", ""), heard("CA^x", "A1", ""),
		heard("AE", "", ""), heard("AE", "A 1", ""), heard("AE", "A1~A1", ""),
		heard("AE", "A1", "||012"), heard("AE", "A1", "||-1"), heard("AE", "A1", "||2147483648"), heard("AE", "A1", "||x"),
		heard("AE", "A2", ""), heard("AE", "a1", ""),
		heard("CA", "A1", ""), heard("CE", "A1", ""), heard("CR", "A1", ""),
		[]byte("\x0bMSH|^~\\&\rMSA\r\x1c\r"),
	} {
		r := owed(t, pair(), "")
		before := r.e.Image()
		r.arrive(p)
		r.counts(strangeOne)
		r.sync()
		if x := r.e.Image(); x.Written != before.Written || len(x.Sent) != 1 || x.Sent[0].State != api.WantApp {
			t.Errorf("%q: %+v", p, x)
		}
	}
	// None is outstanding.
	r := start(t, pair(), 0)
	r.arrive(heard("AA", "A1", ""))
	r.counts(strangeOne)
}

// An acknowledgement is one wherever its MSA stands and whatever its header says; none is answered.
func TestHeardByItsMSA(t *testing.T) {
	r := owed(t, pair(), "")
	r.arrive([]byte("\x0bMSH|^~\\&|||||||ADT^A01|\rZZZ\rMSA|\\X41\\A|A1\rNK1\r\x1c\r"))
	r.sync("answer A1 answered AA")
	// Also of the side that takes numbered messages.
	s := numbers()
	s.Sides[1].Sequence = true
	r = owed(t, s, "")
	r.arrive([]byte("\x0bMSH|^~\\&|||||||ADT^A01|A9|P|2.5.1|0\rMSA|AR|A1\r\x1c\r"))
	r.sync("answer A1 answered AR")
	r.counts(api.Counts{})
}

// 2: CA.
func TestHeardCommit(t *testing.T) {
	r := owed(t, pair(), "AL AL")
	r.tick(2)
	r.arrive(heard("CA", "A1", ""))
	x := r.e.Image()
	if x.Written != 2 || !x.Sent[0].Noted || x.Sent[0].Want != (api.Want{State: api.WantApp, Left: 1}) || x.Dues[0] != 5 {
		t.Fatalf("image %+v", x)
	}
	// Once more: nothing, not even strange.
	r.arrive(heard("CA", "A1", ""))
	if x := r.e.Image(); x.Written != 2 || x.Counts != (api.Counts{}) {
		t.Fatalf("image %+v", x)
	}
	r.sync()
	r.tick(3, "out "+always("A1"))
	r.arrive(heard("AA", "A1", ""))
	r.sync("answer A1 answered AA")

	// It is listened for what may come still, from now on.
	r = owed(t, pair(), "AL ER")
	r.tick(2)
	r.arrive(heard("CA", "A1", ""))
	if x := r.e.Image(); x.Sent[0].State != api.WantListen || x.Dues[0] != 7 || x.Written != 2 {
		t.Fatalf("image %+v", x)
	}
	r.sync()
	r.tick(4)
	r.tick(1)
	r.sync("answer A1 closed")

	r = owed(t, pair(), "SU NE")
	r.arrive(heard("CA", "A1", "", "ERR|||207"))
	r.sync("answer A1 answered CA")
	r.arrive(heard("CA", "A1", ""))
	r.counts(strangeOne)
}

// A noted one goes on behind a crash where it stood: a commit is not waited for.
func TestHeardCommitIsKept(t *testing.T) {
	for conditions, state := range map[string]int{"AL AL": api.WantApp, "AL ER": api.WantListen} {
		r := owed(t, pair(), conditions)
		r.arrive(heard("CA", "A1", ""))
		r.e.Sync()
		r.restart([2]api.Tear{}, 3, "out "+of("A1", "", conditions))
		if x := r.e.Image(); x.Sent[0].Want != (api.Want{State: state, Left: 1}) || x.Dues[0] != 8 {
			t.Errorf("%s: image %+v", conditions, x)
		}
	}
}

// 3: refused by its number.
func TestHeardNumber(t *testing.T) {
	unable := "ERR|||207"
	for _, c := range []struct{ conditions, code string }{{"", "AE"}, {"AL AL", "CE"}, {"AL NE", "CE"}, {"NE AL", "AE"}, {"ER ER", "CE"}, {"AL AL", "AE"}} {
		r := owed(t, numbers(), c.conditions)
		left := 1
		r.tick(2)
		r.arrive(heard(c.code, "A1", "||9", "ERR||PID^1|101", unable))
		x := r.e.Image()
		if x.Sent[0].Number != 9 || x.Tables.Next != 10 || x.Sent[0].Left != left-1 || x.Dues[0] != 7 || x.Written != 3 {
			t.Fatalf("%q: image %+v", c.conditions, x)
		}
		r.sync("out " + of("A1", "9", c.conditions))
		// The same once more is an old one.
		r.arrive(heard(c.code, "A1", "||9", unable))
		r.counts(strangeOne)
		// With no try left it settles.
		r.arrive(heard(c.code, "A1", "||4", unable))
		r.sync("answer A1 answered " + c.code + " 207 - 0 0 0 0 0")
		if next := r.e.Image().Tables.Next; next != 10 {
			t.Errorf("next is %d", next)
		}
	}
}

// 3: what settles, though it looks like that.
func TestHeardNoNumber(t *testing.T) {
	unable := "ERR|||207"
	for _, c := range []struct {
		setup    api.Setup
		code     string
		behind   string
		segments []string
		told     string
	}{
		{numbers(), "AE", "||0", []string{unable}, " 207 - 0 0 0 0 0"},
		{numbers(), "AE", "", []string{unable}, " 207 - 0 0 0 0 0"},
		{numbers(), "AE", "||9", nil, ""},
		{numbers(), "AE", "||9", []string{"ERR|||206"}, " 206 - 0 0 0 0 0"},
		{numbers(), "AE", "||9", []string{"ERR||PID^0|207"}, ""},
		{numbers(), "AR", "||9", []string{unable}, " 207 - 0 0 0 0 0"},
		{numbers(), "AA", "||9", []string{unable}, ""},
		{pair(), "AE", "||9", []string{unable}, " 207 - 0 0 0 0 0"},
	} {
		r := owed(t, c.setup, "")
		r.arrive(heard(c.code, "A1", c.behind, c.segments...))
		r.sync("answer A1 answered " + c.code + c.told)
	}
	// Layer 10 reads eight errors; a ninth of 207 is none that is read.
	nine := slices.Repeat([]string{"ERR|||101"}, 8)
	r := owed(t, numbers(), "")
	r.arrive(heard("AE", "A1", "||9", append(nine, unable)...))
	if x := r.e.Image(); len(x.Sent) != 0 || len(x.Held[0].Seen.Errors) != 8 {
		t.Errorf("image %+v", x)
	}
	r = owed(t, numbers(), "")
	r.arrive(heard("AE", "A1", "||9", append(nine[:7:7], unable)...))
	if x := r.e.Image(); len(x.Sent) != 1 || x.Sent[0].Number != 9 {
		t.Errorf("image %+v", x)
	}
}

// 3: strange, if its commit has come, or it is the message's own number.
func TestHeardOldNumber(t *testing.T) {
	r := owed(t, numbers(), "AL AL")
	r.arrive(heard("CE", "A1", "||1", "ERR|||207"))
	r.counts(strangeOne)
	r.arrive(heard("CA", "A1", ""))
	r.arrive(heard("CE", "A1", "||9", "ERR|||207"))
	r.arrive(heard("AE", "A1", "||9", "ERR|||207"))
	r.counts(api.Counts{Strange: 3})
	if x := r.e.Image(); x.Sent[0].Number != 1 || x.Sent[0].Left != 1 || x.Tables.Next != 2 {
		t.Errorf("image %+v", x)
	}
	r.arrive(heard("AE", "A1", ""))
	r.sync("answer A1 answered AE")
}

// 3: behind the greatest number none is left.
func TestHeardGreatestNumber(t *testing.T) {
	r := owed(t, numbers(), "")
	r.arrive(heard("AE", "A1", "||2147483647", "ERR|||207"))
	r.sync("out " + of("A1", "2147483647", ""))
	if next := r.e.Image().Tables.Next; next != 0 {
		t.Errorf("next is %d", next)
	}
}

// Without a try, and with all of them: each number is one.
func TestHeardNumberTries(t *testing.T) {
	for tries := range 4 {
		s := numbers()
		s.Sides[0].Tries = tries
		r := owed(t, s, "")
		for i := range tries {
			r.arrive(heard("AE", "A1", "||"+strconv.Itoa(i+5), "ERR|||207"))
			r.sync("out " + of("A1", strconv.Itoa(i+5), ""))
		}
		r.arrive(heard("AE", "A1", "||99", "ERR|||207"))
		r.sync("answer A1 answered AE 207 - 0 0 0 0 0")
	}
}

// 4: what is told has the errors that layer 10 reads.
func TestHeardErrors(t *testing.T) {
	r := owed(t, pair(), "AL AL")
	r.arrive(heard("CR", "A1", "||3", "ERR||MSH^1^9^1|201^^HL70357|E", "ERR||wrong|201", "ERR||OBX^2^5^3^2^1|102", "ERR|||99"))
	r.sync("answer A1 answered CR 201 MSH 1 9 1 0 0 102 OBX 2 5 3 2 1")
	x := r.e.Image()
	if x.Written != 2 || len(x.Dues) != 0 {
		t.Errorf("image %+v", x)
	}
	// Its timer is gone.
	r.tick(100)
	// The same control id may be submitted anew.
	r.submit(always("A1"))
	r.sync("out " + always("A1"))
}

// A telling that a crash has taken is not made again; without its record the message goes out again.
func TestHeardAndCrashed(t *testing.T) {
	r := owed(t, pair(), "")
	r.arrive(heard("AA", "A1", ""))
	r.restart([2]api.Tear{}, 0, "out "+original("A1"))
	r = owed(t, pair(), "")
	r.arrive(heard("AA", "A1", ""))
	all := api.Tear{Keep: api.MaxArea}
	r.restart([2]api.Tear{all, all}, 0)
	r.sync()
}
