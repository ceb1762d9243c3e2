package ledger

import (
	"bytes"
	"encoding/hex"
	"math/rand/v2"
	"slices"
	"strings"
	"testing"

	"courier/api"
)

// P1603: bytes of records.

// scan reads bytes from the left and stops at the first fault; -1: there is none yet.
type scan struct {
	b     []byte
	at    int
	fault int
}

// has: so many bytes are there, and nothing was wrong so far.
func (s *scan) has(n int) bool {
	if s.fault < 0 && s.at+n > len(s.b) {
		s.fault = len(s.b)
	}
	return s.fault < 0
}

func (s *scan) wrong(at int) {
	if s.fault < 0 {
		s.fault = at
	}
}

func (s *scan) number(size int, least, most uint64) int {
	if !s.has(size) {
		return 0
	}
	var n uint64
	for _, c := range s.b[s.at : s.at+size] {
		n = n*256 + uint64(c)
	}
	if n < least || n > most {
		s.wrong(s.at)
		return 0
	}
	s.at += size
	return int(n)
}

func (s *scan) text(least, most uint64, is func(text string) bool) string {
	n := s.number(4, least, most)
	if !s.has(n) {
		return ""
	}
	text := string(s.b[s.at : s.at+n])
	if !is(text) {
		s.wrong(s.at)
	}
	s.at += n
	return text
}

func (s *scan) cond() api.Conditions {
	if !s.has(3) {
		return api.Conditions{}
	}
	b := s.b[s.at : s.at+3]
	for _, c := range allConds() {
		if bytes.Equal(condBytes(c), b) {
			s.at += 3
			return c
		}
	}
	s.wrong(s.at)
	return api.Conditions{}
}

// recordOf reads a record, or says where its first fault is (-1: nowhere).
func recordOf(b []byte) (api.Record, int) {
	s := &scan{b: b, fault: -1}
	any := func(string) bool { return true }
	r := api.Record{Kind: s.number(1, 1, 8)}
	if s.fault < 0 && r.Kind != 7 {
		r.Control = s.text(1, 18, names.MatchString)
	}
	content := func(least, most uint64) []byte { return []byte(s.text(least, most, any)) }
	switch r.Kind {
	case 1:
		r.Text, r.Cond = content(1, longest), s.cond()
	case 2:
		r.Number = s.number(8, 1, top)
	case 4:
		r.State = s.number(8, 4, 6)
		if r.State == 4 {
			r.Code = s.text(2, 2, func(c string) bool { return slices.Contains(codes(), c) })
		} else {
			s.text(0, 0, any)
		}
	case 5:
		r.Text = content(1, longest)
		r.Number, r.Tick = s.number(8, 0, top), s.number(8, 0, latest)
		r.Commit = content(0, mostAns)
	case 6:
		r.Code = s.text(2, 2, func(c string) bool { return slices.Contains(verdicts(), c) })
		r.Answer = content(0, mostAns)
	case 7:
		r.Number = s.number(8, 0, top)
	}
	if s.fault < 0 && s.at < len(b) {
		s.fault = s.at
	}
	if s.fault >= 0 {
		return api.Record{}, s.fault
	}
	return r, -1
}

// reads holds Decode against the model, and whatever it answers against Encode.
func reads(t *testing.T, b []byte) {
	t.Helper()
	r, err := Decode(b)
	want, at := recordOf(b)
	if at >= 0 {
		refused(t, "Decode of "+hex.EncodeToString(b[:min(len(b), 60)]), err, api.ErrForm, at)
		if !isSameRecord(r, api.Record{}) {
			t.Fatalf("a record beside an error: %+v", r)
		}
		return
	}
	if err != nil || !isSameRecord(r, want) {
		t.Fatalf("Decode of % X: %+v, %v; want %+v", b, r, err, want)
	}
	back, err := Encode(r)
	if err != nil || !bytes.Equal(back, b) {
		t.Fatalf("Encode of what % X is: % X, %v", b, back, err)
	}
}

// The bytes of each kind, as the chapter has them.
func TestP1603Bytes(t *testing.T) {
	want := []string{
		"01 00000005 412d312e7a 00000006 4d53487c6d0d 01 01 01",
		"02 00000002 4131 0000000000000102",
		"03 00000002 4131",
		"04 00000002 4131 0000000000000004 00000002 4345",
		"05 00000002 4231 00000006 4d53487c6e0d 0000000000000007 0000000000010002 00000002 4341",
		"06 00000002 4231 00000002 4152 00000006 616e73776572",
		"07 0000000000000009",
		"08 00000002 5231",
	}
	for i, r := range good() {
		b, err := Encode(r)
		done(t, err)
		if got, want := hex.EncodeToString(b), strings.ReplaceAll(want[i], " ", ""); got != want {
			t.Errorf("kind %d: %s, want %s", r.Kind, got, want)
		}
	}
	b, err := Encode(api.Record{Kind: 4, Control: "a", State: 6})
	if err != nil || hex.EncodeToString(b) != "0400000001610000000000000006"+"00000000" {
		t.Errorf("without a code: % X, %v", b, err)
	}
	b, err = Encode(api.Record{Kind: 1, Control: "a", Text: []byte("m"), Cond: api.Conditions{Enhanced: true, Accept: 2, App: 3}})
	if err != nil || hex.EncodeToString(b) != "010000000161000000016d010203" {
		t.Errorf("conditions: % X, %v", b, err)
	}
}

func TestP1603ThereAndBack(t *testing.T) {
	for _, r := range slices.Concat(good(), borders()) {
		b, err := Encode(r)
		done(t, err)
		back, err := Decode(b)
		if err != nil || !isSameRecord(back, r) {
			t.Errorf("%+v, %v; want %+v", back, err, r)
		}
		reads(t, b)
		if len(b) > api.MaxRecord {
			t.Errorf("kind %d: %d bytes", r.Kind, len(b))
		}
	}
}

func TestP1603EveryBeginning(t *testing.T) {
	for _, r := range slices.Concat(good(), borders()) {
		b, err := Encode(r)
		done(t, err)
		for n := range b {
			_, err := Decode(b[:n])
			refused(t, "a beginning", err, api.ErrForm, n)
		}
		for _, more := range []string{"\x00", "x", "\x00\x00", string(b)} {
			_, err := Decode(append(slices.Clone(b), more...))
			refused(t, "bytes behind the end", err, api.ErrForm, len(b))
		}
	}
}

// Each byte of short records takes each value, also with the end cut off behind it.
func TestP1603EachByteChanged(t *testing.T) {
	list := good()
	for _, r := range borders() {
		if b, _ := Encode(r); len(b) < 100 {
			list = append(list, r)
		}
	}
	for _, r := range list {
		b, err := Encode(r)
		done(t, err)
		for i := range b {
			for v := range 256 {
				c := slices.Clone(b)
				c[i] = byte(v)
				reads(t, c)
				for n := i + 1; n <= len(c); n++ {
					if n < i+5 || n == i+8 || n == len(c)-1 {
						reads(t, c[:n])
					}
				}
			}
		}
	}
}

// The places of faults, said here in full.
func TestP1603PlacesOfFaults(t *testing.T) {
	for _, s := range []struct {
		b  string
		at int
	}{
		{"", 0}, {"\x00", 0}, {"\x09", 0}, {"\xFF", 0}, {"\x00rest", 0},
		{"\x03", 1}, {"\x03\xFF", 2}, {"\x03\xFF\xFF\xFF", 4}, {"\x03\xFF\xFF\xFF\xFF", 1},
		{"\x03\x00\x00\x00\x00", 1}, {"\x03\x00\x00\x00\x00a", 1}, {"\x03\x00\x00\x00\x13", 1}, {"\x03\x00\x00\x00\x12 ", 6},
		{"\x03\x00\x00\x00\x02a", 6}, {"\x03\x00\x00\x00\x02a ", 5}, {"\x03\x00\x00\x00\x02 a", 5}, {"\x03\x00\x00\x00\x01ab", 6},
		{"\x01\x00\x00\x00\x01a\x00\x00\x00\x00", 6}, {"\x01\x00\x00\x00\x01a\x00\x00\x20\x01", 6}, {"\x01\x00\x00\x00\x01a\x00\x00\x20\x00", 10},
		{"\x01\x00\x00\x00\x01a\x00\x00\x00\x01m", 11}, {"\x01\x00\x00\x00\x01a\x00\x00\x00\x01m\x02", 12}, {"\x01\x00\x00\x00\x01a\x00\x00\x00\x01m\x02\x09", 13},
		{"\x01\x00\x00\x00\x01a\x00\x00\x00\x01m\x02\x00\x00", 11}, {"\x01\x00\x00\x00\x01a\x00\x00\x00\x01m\x01\x04\x00", 11},
		{"\x01\x00\x00\x00\x01a\x00\x00\x00\x01m\x01\x00\x04", 11}, {"\x01\x00\x00\x00\x01a\x00\x00\x00\x01m\x00\x00\x01", 11},
		{"\x01\x00\x00\x00\x01a\x00\x00\x00\x01m\x00\x01\x00", 11}, {"\x01\x00\x00\x00\x01a\x00\x00\x00\x01m\x00\x00\x00x", 14},
		{"\x02\x00\x00\x00\x01a\x00\x00\x00\x00\x00\x00\x00\x00", 6}, {"\x02\x00\x00\x00\x01a\x00\x00\x00\x00\x80\x00\x00\x00", 6},
		{"\x02\x00\x00\x00\x01a\xFF\xFF\xFF\xFF\xFF\xFF\xFF", 13}, {"\x02\x00\x00\x00\x01a\xFF\xFF\xFF\xFF\xFF\xFF\xFF\xFF", 6},
		{"\x04\x00\x00\x00\x01a\x00\x00\x00\x00\x00\x00\x00\x03", 6}, {"\x04\x00\x00\x00\x01a\x00\x00\x00\x00\x00\x00\x00\x07", 6},
		{"\x04\x00\x00\x00\x01a\x00\x00\x00\x00\x00\x00\x00\x04\x00\x00\x00\x00", 14}, {"\x04\x00\x00\x00\x01a\x00\x00\x00\x00\x00\x00\x00\x04\x00\x00\x00\x02AB", 18},
		{"\x04\x00\x00\x00\x01a\x00\x00\x00\x00\x00\x00\x00\x04\x00\x00\x00\x02A", 19}, {"\x04\x00\x00\x00\x01a\x00\x00\x00\x00\x00\x00\x00\x05\x00\x00\x00\x02CA", 14},
		{"\x04\x00\x00\x00\x01a\x00\x00\x00\x00\x00\x00\x00\x06\x00\x00\x00\x01", 14}, {"\x04\x00\x00\x00\x01a\x00\x00\x00\x00\x00\x00\x00\x06\x00\x00\x00\x00x", 18},
		{"\x06\x00\x00\x00\x01a\x00\x00\x00\x02CA\x00\x00\x00\x00", 10}, {"\x06\x00\x00\x00\x01a\x00\x00\x00\x03AAA", 6}, {"\x06\x00\x00\x00\x01a\x00\x00\x00\x02AA\x00\x00\x08\x01", 12},
		{"\x07\x00\x00\x00\x00\x80\x00\x00\x00", 1}, {"\x07\x80\x00\x00\x00\x00\x00\x00\x00", 1}, {"\x07\x00\x00\x00\x00\x00\x00\x00", 8}, {"\x07\x00\x00\x00\x00\x00\x00\x00\x00\x00", 9},
	} {
		_, err := Decode([]byte(s.b))
		refused(t, "Decode of "+hex.EncodeToString([]byte(s.b)), err, api.ErrForm, s.at)
		reads(t, []byte(s.b))
	}
	head := "\x05\x00\x00\x00\x01a\x00\x00\x00\x01m\x00\x00\x00\x00\x7F\xFF\xFF\xFF"
	for _, s := range []struct {
		b  string
		at int
	}{
		{"\x00\x00\x01\x00\x00\x00\x00\x01", 19}, {"\x00\x00\x01\x00\x00\x00\x00\x00", 27}, {"\x80\x00\x00\x00\x00\x00\x00\x00", 19},
		{"\x00\x00\x01\x00\x00\x00\x00\x00\x00\x00\x08\x01", 27}, {"\x00\x00\x01\x00\x00\x00\x00\x00\x00\x00\x00\x00", -1},
	} {
		if _, at := recordOf([]byte(head + s.b)); at != s.at {
			t.Errorf("the model says %d, want %d", at, s.at)
		}
		reads(t, []byte(head+s.b))
	}
}

// Bytes at random, and pieces of records at random, one behind the other.
func TestP1603AnyBytes(t *testing.T) {
	rnd := rand.New(rand.NewPCG(16, 3))
	var pieces [][]byte
	for _, r := range good() {
		b, _ := Encode(r)
		pieces = append(pieces, b)
	}
	for range 200000 {
		b := make([]byte, rnd.IntN(40))
		for i := range b {
			b[i] = byte(rnd.IntN(12))
		}
		if p := pieces[rnd.IntN(len(pieces))]; rnd.IntN(2) == 0 {
			b = append(slices.Clone(p[:rnd.IntN(len(p)+1)]), b...)
		}
		reads(t, b)
	}
}
