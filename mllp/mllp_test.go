package mllp

import (
	"bytes"
	"errors"
	"fmt"
	"math"
	"reflect"
	"runtime"
	"strings"
	"testing"
	"time"

	"courier/api"
)

// refused holds an error against the one fault that it must be.
func refused(t *testing.T, what string, err error, code api.Errno, at int) {
	t.Helper()
	var f *api.Fault
	if !errors.As(err, &f) || *f != (api.Fault{Layer: "mllp", At: at, Code: code}) || !errors.Is(err, code) {
		t.Errorf("%s: %v, want mllp: %d: %v", what, err, at, code)
	}
}

func made(t testing.TB, max int) *Deframer {
	t.Helper()
	d, err := New(max)
	if err != nil || d == nil {
		t.Fatalf("New(%d): %v, %v", max, d, err)
	}
	return d
}

// message, over and garbage are parts as they must be told.
func message(text string) api.Part { return part(api.PartMessage, text, len(text)) }

func over(text string, n int) api.Part { return part(api.PartOver, text, n) }

func garbage(n int) api.Part { return part(api.PartGarbage, "", n) }

func part(kind int, text string, n int) api.Part {
	return api.Part{Kind: kind, Text: []byte(text), N: n}
}

// alike: a list without an element may be nil or empty.
func alike(a, b []api.Part) bool {
	if len(a) != len(b) {
		return false
	}
	for i := range a {
		if a[i].Kind != b[i].Kind || a[i].N != b[i].N || !bytes.Equal(a[i].Text, b[i].Text) {
			return false
		}
	}
	return true
}

// show tells parts in a text that can be read.
func show(parts []api.Part) string {
	s := "nothing"
	for _, p := range parts {
		s = strings.TrimPrefix(s, "nothing") + fmt.Sprintf("[%d %q %d]", p.Kind, p.Text, p.N)
	}
	return s
}

// tells feeds a stream in one piece, and holds what is told and where it stands then against what must be.
func tells(t *testing.T, what string, d *Deframer, stream string, look api.Deframing, want ...api.Part) {
	t.Helper()
	if got := d.Feed([]byte(stream)); !alike(got, want) {
		t.Errorf("%s: Feed(%q) told %s, want %s", what, stream, show(got), show(want))
	}
	if got := d.Look(); got != look {
		t.Errorf("%s: Look behind %q is %+v, want %+v", what, stream, got, look)
	}
}

func TestP401Frame(t *testing.T) {
	for payload, want := range map[string]string{
		"a":                    "\x0Ba\x1C\r",
		"MSH|^~\\&\rPID|1\r":   "\x0BMSH|^~\\&\rPID|1\r\x1C\r",
		"\r":                   "\x0B\r\x1C\r",
		"\x00\xFF\x0A\x0C\x1B": "\x0B\x00\xFF\x0A\x0C\x1B\x1C\r",
	} {
		if got, err := Frame([]byte(payload)); err != nil || string(got) != want {
			t.Errorf("Frame(%q) is %q, %v, want %q", payload, got, err, want)
		}
	}
	longest := strings.Repeat("m", api.MaxMessage)
	if got, err := Frame([]byte(longest)); err != nil || string(got) != "\x0B"+longest+"\x1C\r" {
		t.Errorf("Frame of MaxMessage bytes: %d bytes, %v", len(got), err)
	}
}

func TestP401EveryByte(t *testing.T) {
	for b := range 256 {
		payload := []byte{'x', 'y', byte(b), 'z'}
		got, err := Frame(payload)
		if b == 0x0B || b == 0x1C {
			refused(t, "Frame", err, api.ErrFraming, 2)
			if got != nil {
				t.Errorf("Frame with the byte %02X: %q beside an error", b, got)
			}
			continue
		}
		if want := "\x0Bxy" + string(payload[2:3]) + "z\x1C\r"; err != nil || string(got) != want {
			t.Errorf("Frame with the byte %02X: %q, %v", b, got, err)
		}
	}
}

func TestP401Refusals(t *testing.T) {
	long := strings.Repeat("m", api.MaxMessage)
	for _, c := range []struct {
		payload []byte
		code    api.Errno
		at      int
	}{
		{nil, api.ErrForm, 0},
		{[]byte{}, api.ErrForm, 0},
		{[]byte(long + "m"), api.ErrLong, 0},
		{[]byte(long + long + long), api.ErrLong, 0},
		{[]byte("\x0B" + long), api.ErrLong, 0},
		{[]byte(long + "\x1C"), api.ErrLong, 0},
		{[]byte("\x0B"), api.ErrFraming, 0},
		{[]byte("\x1C"), api.ErrFraming, 0},
		{[]byte("a\x0B"), api.ErrFraming, 1},
		{[]byte("ab\x1C\x0B"), api.ErrFraming, 2},
		{[]byte("ab\x0B\x1C"), api.ErrFraming, 2},
		{[]byte("\xC3\xA4\xFF\x1C"), api.ErrFraming, 3},
		{[]byte(long[1:] + "\x0B"), api.ErrFraming, api.MaxMessage - 1},
	} {
		got, err := Frame(c.payload)
		refused(t, "Frame", err, c.code, c.at)
		if got != nil {
			t.Errorf("Frame: %d bytes beside an error", len(got))
		}
	}
}

func TestP402New(t *testing.T) {
	for _, max := range []int{math.MinInt, -1, 0, api.MaxMessage + 1, math.MaxInt} {
		d, err := New(max)
		refused(t, "New", err, api.ErrRange, 0)
		if d != nil {
			t.Errorf("New(%d): a Deframer beside an error", max)
		}
	}
	for _, max := range []int{1, 2, api.MaxMessage - 1, api.MaxMessage} {
		d := made(t, max)
		if l := d.Look(); l != (api.Deframing{}) {
			t.Errorf("New(%d): Look %+v", max, l)
		}
		tells(t, "New", d, "\x0B"+strings.Repeat("m", max)+"\x1C\r", api.Deframing{}, message(strings.Repeat("m", max)))
	}
}

func TestP402NotMade(t *testing.T) {
	for _, d := range []*Deframer{nil, {}, new(Deframer)} {
		for _, stream := range []string{"", "x", "\x0Bab\x1C\r", "x\x0Bab"} {
			tells(t, "not made", d, stream, api.Deframing{})
		}
		d.Drop()
		tells(t, "not made, dropped", d, "x\x0Bab\x1C\r", api.Deframing{})
	}
}

// places brings a Deframer of Max 4 to each place of the table of Feed, with the bytes that it holds there.
func places() map[string]api.Deframing {
	return map[string]api.Deframing{
		"":                            {},
		"xyz":                         {Garbage: 3},
		"\x0Bab\x1C\rz":               {Garbage: 1},
		"\x0B":                        {Inside: true},
		"xyz\x0B":                     {Inside: true},
		"\x0Bab":                      {Inside: true, Held: 2, Size: 2},
		"\x0Babcd":                    {Inside: true, Held: 4, Size: 4},
		"\x0Babcdef":                  {Inside: true, Held: 4, Size: 6},
		"\x0B\x1C":                    {Inside: true, Ending: true},
		"\x0Bab\x1C":                  {Inside: true, Ending: true, Held: 2, Size: 2},
		"\x0Babcd\x1C":                {Inside: true, Ending: true, Held: 4, Size: 4},
		"\x0Babcdef\x1C":              {Inside: true, Ending: true, Held: 4, Size: 6},
		"\x0Bq\x0Bab":                 {Inside: true, Held: 2, Size: 2},
		"\x0Bq\x1C\x0Bab\x1C":         {Inside: true, Ending: true, Held: 2, Size: 2},
		"\x0Bq\x1C\x1C\r":             {Garbage: 5},
		"\x0Bab\x1C\r\x0Bcde\x1C\x1C": {Garbage: 6},
	}
}

// kept is what a frame that stands at the end of the stream has of its message, up to Max 4.
func kept(stream string) string {
	text := stream[strings.LastIndexByte(stream, 0x0B)+1:]
	text = strings.TrimSuffix(text, "\x1C")
	return text[:min(4, len(text))]
}

// follows is the table of Feed, for one byte at one place.
func follows(stream string, at api.Deframing, b byte) (api.Deframing, []api.Part) {
	begun := func(n int) (api.Deframing, []api.Part) {
		if n == 0 {
			return api.Deframing{Inside: true}, nil
		}
		return api.Deframing{Inside: true}, []api.Part{garbage(n)}
	}
	switch {
	case !at.Inside && b == 0x0B:
		return begun(at.Garbage)
	case !at.Inside:
		return api.Deframing{Garbage: at.Garbage + 1}, nil
	case !at.Ending && b == 0x0B:
		return begun(1 + at.Size)
	case !at.Ending && b == 0x1C:
		at.Ending = true
		return at, nil
	case !at.Ending:
		return api.Deframing{Inside: true, Held: min(4, at.Held+1), Size: at.Size + 1}, nil
	case b == 0x0D && at.Size > 4:
		return api.Deframing{}, []api.Part{over(kept(stream), at.Size)}
	case b == 0x0D:
		return api.Deframing{}, []api.Part{message(kept(stream))}
	case b == 0x0B:
		return begun(2 + at.Size)
	}
	return api.Deframing{Garbage: 3 + at.Size}, nil
}

func TestP403P404EveryRow(t *testing.T) {
	for stream, at := range places() {
		for b := range 256 {
			d := made(t, 4)
			d.Feed([]byte(stream))
			if got := d.Look(); got != at {
				t.Fatalf("Look behind %q is %+v, want %+v", stream, got, at)
			}
			look, want := follows(stream, at, byte(b))
			if got := d.Feed([]byte{byte(b)}); !alike(got, want) {
				t.Errorf("%q, then %02X: %s, want %s", stream, b, show(got), show(want))
			}
			if got := d.Look(); got != look {
				t.Errorf("%q, then %02X: Look %+v, want %+v", stream, b, got, look)
			}
		}
	}
}

func TestP403Examples(t *testing.T) {
	none := api.Deframing{}
	tells(t, "example", made(t, 4), "xy\x0Bab\x1C\r", none, garbage(2), message("ab"))
	tells(t, "example", made(t, 4), "\x0Ba\x0Bb\x1C\r", none, garbage(2), message("b"))
	tells(t, "example", made(t, 4), "\x0Babcdef\x1C\r", none, over("abcd", 6))
	tells(t, "example", made(t, 4), "\x0Ba\x1Cx\x0Bb\x1C\r", none, garbage(4), message("b"))
	tells(t, "example", made(t, 4), "\x0Ba\x1C\x1C\r\x0Bb\x1C\r", none, garbage(5), message("b"))
	tells(t, "example", made(t, 4), "\x0B\x1C\r", none, message(""))
	tells(t, "example", made(t, 4), "\x0Ba\x1C", api.Deframing{Inside: true, Ending: true, Held: 1, Size: 1})
}

func TestP403ManyParts(t *testing.T) {
	d := made(t, 2)
	tells(t, "many", d, "\x0Ba\x1C\r\x0Bbc\x1C\rxx\x0Bdef\x1C\r\x0B\x0B\x1C\r\r\r\x0B\rg\x1C",
		api.Deframing{Inside: true, Ending: true, Held: 2, Size: 2},
		message("a"), message("bc"), garbage(2), over("de", 3), garbage(1), message(""), garbage(2))
	tells(t, "many", d, "\r", api.Deframing{}, message("\rg"))
	tells(t, "many", d, "", api.Deframing{})
	if got := d.Feed(nil); len(got) != 0 {
		t.Errorf("Feed(nil) told %s", show(got))
	}
}

func TestP403AroundMax(t *testing.T) {
	for _, max := range []int{1, 2, 7, 255, 256, 257, api.MaxMessage - 1, api.MaxMessage} {
		text := strings.Repeat("0123456789abcdef", (max+20)/16+1)
		for _, n := range []int{max - 1, max, max + 1, max + 17} {
			want := message(text[:n])
			if n > max {
				want = over(text[:max], n)
			}
			d := made(t, max)
			tells(t, "around Max", d, "\x0B"+text[:n], api.Deframing{Inside: true, Held: min(n, max), Size: n})
			tells(t, "around Max", d, "\x1C\r\x0Bz\x1C\r", api.Deframing{}, want, message("z"))
		}
	}
}

func TestP403FarOver(t *testing.T) {
	d := made(t, api.MaxMessage)
	n := 40*api.MaxMessage + 3
	text := strings.Repeat("m", n)
	tells(t, "far over", d, "\x0B"+text, api.Deframing{Inside: true, Held: api.MaxMessage, Size: n})
	tells(t, "far over", d, "\x1C\r", api.Deframing{}, over(text[:api.MaxMessage], n))
	tells(t, "far over", d, text, api.Deframing{Garbage: n})
	tells(t, "far over", d, "\x0B"+text+"\x1C\x1C", api.Deframing{Garbage: n + 3}, garbage(n))
}

// No stream is so long: the counts are set.
func TestCountsStay(t *testing.T) {
	const end = 1 << 53
	d := made(t, 4)
	d.reader.now.Garbage = end - 1
	tells(t, "garbage", d, "x", api.Deframing{Garbage: end})
	tells(t, "garbage", d, "xyz", api.Deframing{Garbage: end})
	tells(t, "garbage", d, "\x0Babc", api.Deframing{Inside: true, Held: 3, Size: 3}, garbage(end))
	d.reader.now.Size = end - 1
	tells(t, "size", d, "d", api.Deframing{Inside: true, Held: 4, Size: end})
	tells(t, "size", d, "ef", api.Deframing{Inside: true, Held: 4, Size: end})
	tells(t, "size", d, "\x1C\r", api.Deframing{}, over("abcd", end))
	for _, stream := range []string{"\x0B", "\x1C\x0B"} {
		d.Feed([]byte("\x0B"))
		d.reader.now.Size = end
		tells(t, "both", d, stream, api.Deframing{Inside: true}, garbage(end))
		d.Drop()
	}
	d.Feed([]byte("\x0B"))
	d.reader.now.Size = end - 2
	tells(t, "both", d, "\x1Cx", api.Deframing{Garbage: end})
}

func TestP405Drop(t *testing.T) {
	for stream := range places() {
		d, fresh := made(t, 4), made(t, 4)
		d.Feed([]byte(stream))
		d.Drop()
		for _, next := range []string{"", "ab\x1C\r", "\x0Babcde\x1C\rx", "\x0B\x1C\r", "q\x0Bab"} {
			want := fresh.Feed([]byte(next))
			tells(t, "dropped behind "+stream, d, next, fresh.Look(), want...)
		}
	}
}

func TestP409HandedIn(t *testing.T) {
	room := []byte("\x0Bab\x1C\rx\x0Bcd!!!!")
	piece, before := room[:9:12], bytes.Clone(room)
	d := made(t, 4)
	got := d.Feed(piece)
	if !bytes.Equal(room, before) {
		t.Errorf("Feed made %q of %q", room, before)
	}
	for i := range room {
		room[i] = '#'
	}
	want := []api.Part{message("ab"), garbage(1)}
	if !alike(got, want) {
		t.Errorf("what was told is %s behind a change of what was fed", show(got))
	}
	tells(t, "what was fed is changed", d, "\x1C\r", api.Deframing{}, message("cd"))

	payload := []byte("abcdef")
	f, err := Frame(payload[:3])
	if err != nil || string(payload) != "abcdef" {
		t.Errorf("Frame made %q of its argument, %v", payload, err)
	}
	payload[0] = '#'
	if string(f) != "\x0Babc\x1C\r" {
		t.Errorf("Frame's answer is %q behind a change of its argument", f)
	}
}

// scribble writes all over a list, the room behind its end too.
func scribble(p []byte) {
	p = p[:cap(p)]
	for i := range p {
		p[i] = '#'
	}
}

func TestP409HandedOut(t *testing.T) {
	stream := "\x0Ba\x1C\r\x0Bbcdef\x1C\rx\x0Bgh\x1C\r\x0Bklmn\x1C\r\x0Bij"
	want := []api.Part{message("a"), over("bcde", 5), garbage(1), message("gh"), message("klmn")}
	for i := range want {
		d := made(t, 4)
		got := d.Feed([]byte(stream))
		scribble(got[i].Text)
		got[i] = want[i]
		if !alike(got, want) {
			t.Errorf("writing on part %d made the others %s", i, show(got))
		}
		more := got[:cap(got)]
		for j := range more {
			more[j] = garbage(99)
		}
		tells(t, "what was told is changed", d, "\x1C\r", api.Deframing{}, message("ij"))
	}
	a, _ := Frame([]byte("ab"))
	scribble(a)
	if b, _ := Frame([]byte("ab")); string(b) != "\x0Bab\x1C\r" {
		t.Errorf("Frame answers %q behind a change of its last answer", b)
	}
}

// A message that is told later may not lie where an elder one was handed out.
func TestP409Later(t *testing.T) {
	d := made(t, 8)
	a := d.Feed([]byte("\x0Babcdefgh\x1C\r"))
	b := d.Feed([]byte("\x0Bstuvwxyz\x1C\r"))
	c := d.Feed([]byte("\x0Bsecond"))
	scribble(b[0].Text)
	if !alike(a, []api.Part{message("abcdefgh")}) || len(c) != 0 {
		t.Errorf("told %s and %s", show(a), show(c))
	}
	tells(t, "later", d, "\x1C\r", api.Deframing{}, message("second"))
}

func TestP409Two(t *testing.T) {
	a, b := made(t, 4), made(t, 2)
	tells(t, "a", a, "x\x0Babc", api.Deframing{Inside: true, Held: 3, Size: 3}, garbage(1))
	tells(t, "b", b, "yy", api.Deframing{Garbage: 2})
	tells(t, "a", a, "d\x1C", api.Deframing{Inside: true, Ending: true, Held: 4, Size: 4})
	tells(t, "b", b, "\x0Bpqr", api.Deframing{Inside: true, Held: 2, Size: 3}, garbage(2))
	b.Drop()
	tells(t, "a", a, "\r", api.Deframing{}, message("abcd"))
	tells(t, "b", b, "\r", api.Deframing{Garbage: 1})
}

// One Deframer a goroutine: nothing but what is fed may be seen in an answer.
func TestP409Together(t *testing.T) {
	stream := []byte(strings.Repeat("x\x0Babcdef\x1C\r\x0Bgh\x1C\r", 50))
	want := made(t, 4).Feed(stream)
	answers := make(chan []api.Part)
	for range 16 {
		d := made(t, 4)
		go func() { answers <- d.Feed(stream) }()
	}
	for range 16 {
		if got := <-answers; !reflect.DeepEqual(got, want) {
			t.Errorf("told %d parts, want %d", len(got), len(want))
		}
	}
}

func TestGoroutinesEnd(t *testing.T) {
	before := runtime.NumGoroutine()
	d := made(t, 4)
	for range 200 {
		d.Feed([]byte("x\x0Bab\x1C\r"))
		d.Feed(bytes.Repeat([]byte("y"), 1000))
		d.Feed(nil)
		(*Deframer)(nil).Feed([]byte("x"))
	}
	for range 100 {
		if runtime.NumGoroutine() <= before {
			return
		}
		time.Sleep(10 * time.Millisecond)
	}
	t.Errorf("%d goroutines, %d ahead", runtime.NumGoroutine(), before)
}
