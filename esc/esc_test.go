package esc

import (
	"errors"
	"fmt"
	"math"
	"slices"
	"strings"
	"testing"

	"courier/api"
)

// refused holds an error against the one fault that it must be.
func refused(t *testing.T, what string, err error, code api.Errno, at int) {
	t.Helper()
	var f *api.Fault
	if !errors.As(err, &f) || *f != (api.Fault{Layer: "esc", At: at, Code: code}) || !errors.Is(err, code) {
		t.Fatalf("%s: %v, want esc: %d: %v", what, err, at, code)
	}
}

// show tells pieces in a text that can be read.
func show(pieces []api.Piece) string {
	s := "["
	for _, p := range pieces {
		s += fmt.Sprintf("{%d %q %d}", p.Kind, p.Text, p.N)
	}
	return s + "]"
}

var common = marksOf("|^~\\&")
var other = marksOf("#$%!?")

// wrongMarks are Marks that are not right, each with the place that Valid tells.
var wrongMarks = []struct {
	marks api.Marks
	at    int
}{
	{api.Marks{}, 0},
	{marksOf("A^~\\&"), 0},
	{marksOf("||~\\&"), 1},
	{marksOf("|^ \\&"), 2},
	{marksOf("|^~^&"), 3},
	{marksOf("|^~\\|"), 4},
	{marksOf("|^~\\\x80"), 4},
}

func TestP501EveryByteInEveryPlace(t *testing.T) {
	marks := 0
	for b := range 256 {
		if strings.IndexByte(allMarks, byte(b)) >= 0 {
			marks++
		}
		for at := range 5 {
			five := []byte("|^~\\&")
			five[at] = byte(b)
			m := marksOf(string(five))
			want := firstWrong(string(five))
			if want < 0 {
				if err := Valid(m); err != nil {
					t.Errorf("P501: Valid of %q: %v", five, err)
				}
				continue
			}
			refused(t, fmt.Sprintf("P501: Valid of %q", five), Valid(m), api.ErrMark, want)
		}
	}
	if marks != 32 {
		t.Errorf("the test knows %d marks", marks)
	}
}

// firstWrong is the place of the first of the five that is no mark or the same as one ahead; -1 if there is none.
func firstWrong(five string) int {
	for i := range len(five) {
		if strings.IndexByte(allMarks, five[i]) < 0 || strings.IndexByte(five[:i], five[i]) >= 0 {
			return i
		}
	}
	return -1
}

func TestP501FirstOfTwoFaults(t *testing.T) {
	for _, w := range wrongMarks {
		refused(t, fmt.Sprintf("P501: %q", fiveOf(w.marks)), Valid(w.marks), api.ErrMark, w.at)
	}
	refused(t, "P501: the same twice ahead of a letter", Valid(marksOf("|^|\\A")), api.ErrMark, 2)
	refused(t, "P501: a letter ahead of the same twice", Valid(marksOf("|A~\\|")), api.ErrMark, 1)
	refused(t, "P501: two bytes that are one rune", Valid(marksOf("|\xc3\xa4\\&")), api.ErrMark, 1)
	refused(t, "P501: a rune's second byte", Valid(marksOf("|^~\\\xa4")), api.ErrMark, 4)
}

func TestP501Pairs(t *testing.T) {
	for i := range 5 {
		for j := i + 1; j < 5; j++ {
			five := []byte("|^~\\&")
			five[j] = five[i]
			refused(t, fmt.Sprintf("P501: %q", five), Valid(marksOf(string(five))), api.ErrMark, j)
		}
	}
}

func TestP502Read(t *testing.T) {
	long := "MSH|^~\\&|" + strings.Repeat("x", 3*api.MaxMessage)
	for text, want := range map[string]api.Marks{
		"MSH|^~\\&|LAB": common, "MSH|^~\\&": common, "FHS|^~\\&\rx": common, "BHS|^~\\&||": common, "MSH|^~\\&\r": common,
		"MSH|^~\\&\r\xff\x00": common, "FHS#$%!?": other, "BHS#$%!?#": other, "MSH!\"#$%": marksOf("!\"#$%"), "MSH{}[]:{": marksOf("{}[]:"), long: common,
	} {
		if m, err := Read(text); err != nil || m != want {
			t.Errorf("P502: Read(%.20q): %q, %v", text, fiveOf(m), err)
		}
	}
}

// headWrong is the place at which a text is no head; -1 if it is one.
func headWrong(text string) int {
	for i := range 9 {
		if i >= len(text) {
			if i == 8 {
				return -1
			}
			return i
		}
		stands := false
		switch {
		case i < 3:
			for _, name := range []string{"MSH", "FHS", "BHS"} {
				stands = stands || strings.HasPrefix(name, text[:i+1])
			}
		case i < 8:
			stands = firstWrong(text[3:i+1]) < 0
		default:
			stands = text[8] == '\r' || text[8] == text[3]
		}
		if !stands {
			return i
		}
	}
	return -1
}

func readsLikeModel(t *testing.T, text string) {
	t.Helper()
	m, err := Read(text)
	at := headWrong(text)
	if at < 0 {
		if err != nil || m != marksOf(text[3:8]) {
			t.Errorf("P502: Read(%q): %q, %v", text, fiveOf(m), err)
		}
		return
	}
	refused(t, fmt.Sprintf("P502: Read(%q)", text), err, api.ErrHead, at)
	if m != (api.Marks{}) {
		t.Errorf("P502: Read(%q): %q beside an error", text, fiveOf(m))
	}
}

func TestP502EveryByteInEveryPlace(t *testing.T) {
	for _, name := range []string{"MSH", "FHS", "BHS"} {
		for _, rest := range []string{"|^~\\&|LAB", "|^~\\&\r", "|^~\\&", "#$%!?#", "#$%!?#\xc3\xa4"} {
			whole := name + rest
			for at := range len(whole) {
				readsLikeModel(t, whole[:at])
				for b := range 256 {
					changed := []byte(whole)
					changed[at] = byte(b)
					readsLikeModel(t, string(changed))
					readsLikeModel(t, string(changed[:at+1]))
				}
			}
		}
	}
}

func TestP502Wrong(t *testing.T) {
	for text, at := range map[string]int{
		"MSH|^~^&": 6, "MST": 2, "MSH|^~": 6, "MSH|^~\\&X": 8, "": 0, "BHS": 3, "PID|": 0, "MHS|^~\\&": 1, "FSH|^~\\&": 1, "BSH": 1, "MSS": 2, "FHH": 2,
		"msh|^~\\&": 0, "M": 1, "MS": 2, "FH": 2, "MSH|": 4, "MSH|^~\\": 7, "MSH||": 4, "MSHA^": 3, "MSH\r": 3, "MSH|^~\\&\n": 8, "MSH|^~\\&^": 8, " MSH|^~\\&": 0, "MSH|^~\\\r": 7,
		"MSH|\xc3\xa4\\&": 4, "\xc3\xa4": 0, "M\xff": 1, "MSH|^~\\&\xc3\xa4": 8, "MSX||": 2,
	} {
		m, err := Read(text)
		refused(t, fmt.Sprintf("P502: Read(%q)", text), err, api.ErrHead, at)
		if m != (api.Marks{}) {
			t.Errorf("P502: Read(%q): %q beside an error", text, fiveOf(m))
		}
	}
}

func TestP503Head(t *testing.T) {
	for _, name := range []string{"MSH", "FHS", "BHS"} {
		for _, five := range []string{"|^~\\&", "#$%!?", ".+-/:"} {
			s, err := Head(name, marksOf(five))
			if err != nil || s != name+five {
				t.Errorf("P503: Head(%q, %q): %q, %v", name, five, s, err)
			}
			if m, err := Read(s); err != nil || m != marksOf(five) {
				t.Errorf("P502, P503: Read(%q): %q, %v", s, fiveOf(m), err)
			}
		}
	}
}

func TestP503Wrong(t *testing.T) {
	for _, name := range []string{"", "M", "MS", "PID", "msh", "MSH|", "MSHX", "MSH ", " MSH", "FHSBHS", "MHS", "FSH", "BSH", "\xff"} {
		for _, m := range []api.Marks{common, {}, marksOf("|^~\\|")} {
			s, err := Head(name, m)
			refused(t, fmt.Sprintf("P503: Head(%q)", name), err, api.ErrHead, 0)
			if s != "" {
				t.Errorf("P503: Head(%q): %q beside an error", name, s)
			}
		}
	}
	for _, w := range wrongMarks {
		s, err := Head("MSH", w.marks)
		refused(t, fmt.Sprintf("P503: Head of %q", fiveOf(w.marks)), err, api.ErrMark, w.at)
		if s != "" {
			t.Errorf("P503: Head of %q: %q beside an error", fiveOf(w.marks), s)
		}
	}
}

func TestP504Escape(t *testing.T) {
	for text, want := range map[string]string{
		"": "", "abc": "abc", "a|b\r\n": "a\\F\\b\\X0D0A\\", "\\": "\\E\\", "^~&": "\\S\\\\R\\\\T\\", "|^~\\&": "\\F\\\\S\\\\R\\\\E\\\\T\\", "||": "\\F\\\\F\\",
		"\x7f\xe4": "\\X7F\\\xe4", "\x1f !~}": "\\X1F\\ !\\R\\}", "\x00|\x00": "\\X00\\\\F\\\\X00\\", "\xc3\xa4|\xe2\x82\xac": "\xc3\xa4\\F\\\xe2\x82\xac",
		"\x80\xff\xc3": "\x80\xff\xc3", "\xc3\r\xa4": "\xc3\\X0D\\\xa4", "\t\x0b\x1c\x1b\x0c": "\\X090B1C1B0C\\", "a\x00": "a\\X00\\", "\x00a": "\\X00\\a", "\xef\xbf\xbd\x01": "\xef\xbf\xbd\\X01\\",
	} {
		s, err := Escape(common, text)
		if err != nil || s != want {
			t.Errorf("P504: Escape(%q): %q, %v, want %q", text, s, err, want)
		}
	}
	if s, err := Escape(other, "a|#$%!?\x00"); err != nil || s != "a|!F!!S!!R!!E!!T!!X00!" {
		t.Errorf("P504: other marks: %q, %v", s, err)
	}
}

func TestP504EveryByte(t *testing.T) {
	for _, m := range []api.Marks{common, other, marksOf(".+-/:"), marksOf("~`'\"!")} {
		for b := range 256 {
			for _, text := range []string{string([]byte{byte(b)}), "a" + string([]byte{byte(b)}) + "b", string([]byte{byte(b), byte(b)}), "\xc3" + string([]byte{byte(b)})} {
				s, err := Escape(m, text)
				if want := modelEscape(m, text); err != nil || s != want {
					t.Errorf("P504: Escape(%q) under %q: %q, %v, want %q", text, fiveOf(m), s, err, want)
				}
				carries(t, m, text, s)
			}
		}
	}
}

func TestP504Runs(t *testing.T) {
	for _, b := range []string{"\x00", "\x1f", "\x7f", "\r"} {
		pair := fmt.Sprintf("%02X", b)
		for n := range 200 {
			text := "a" + strings.Repeat(b, n) + "b"
			want := "a"
			for left := n; left > 0; left -= 64 {
				want += "\\X" + strings.Repeat(pair, min(left, 64)) + "\\"
			}
			if s, err := Escape(common, text); err != nil || s != want+"b" {
				t.Errorf("P504: a run of %d bytes: %q, %v, want %q", n, s, err, want+"b")
			}
		}
	}
	text := strings.Repeat("\x00", 40) + "|" + strings.Repeat("\x01", 64) + "x" + strings.Repeat("\x02", 30)
	want := "\\X" + strings.Repeat("00", 40) + "\\\\F\\\\X" + strings.Repeat("01", 64) + "\\x\\X" + strings.Repeat("02", 30) + "\\"
	if s, err := Escape(common, text); err != nil || s != want {
		t.Errorf("P504: runs that a mark and a byte part: %q, %v, want %q", s, err, want)
	}
}

func TestP504Bounds(t *testing.T) {
	a := strings.Repeat("a", api.MaxMessage)
	for _, text := range []string{a, a[:len(a)-1], strings.Repeat("|", 2730) + "aa", a[:8187] + "\x00", "\x7f" + a[:8187], a[:8189] + "&", strings.Repeat("\xc3\xa4", 4096)} {
		s, err := Escape(common, text)
		if err != nil || s != modelEscape(common, text) || len(s) > api.MaxMessage {
			t.Errorf("P504: Escape of %d bytes: %d bytes, %v", len(text), len(s), err)
		}
	}
	for _, text := range []string{a + "a", a + a, strings.Repeat("|", 2731), strings.Repeat("|", 2730) + "aaa", a[:8188] + "\x00", a[:8190] + "|", a[:8191] + "|", a[:8191] + "\x00", strings.Repeat("\x00", 8192), strings.Repeat("\x00", 8193)} {
		s, err := Escape(common, text)
		refused(t, fmt.Sprintf("P504: Escape of %d bytes", len(text)), err, api.ErrLong, 0)
		if s != "" {
			t.Errorf("P504: %d bytes beside an error", len(s))
		}
	}
	// 62 escapes of 64 pairs have 131 bytes each; the last one takes what is left.
	most := strings.Repeat("\x00", 62*64) + strings.Repeat("\x01", 33)
	if s, err := Escape(common, most+"a"); err != nil || len(s) != 62*131+69+1 {
		t.Errorf("P504: pairs up to the bound: %d bytes, %v", len(s), err)
	}
	_, err := Escape(common, most+"aa")
	refused(t, "P504: pairs one beyond the bound", err, api.ErrLong, 0)
}

func TestValidsErrorComesFirst(t *testing.T) {
	long := strings.Repeat("\t", 3*api.MaxMessage)
	for _, w := range wrongMarks {
		for _, text := range []string{"", "abc", "\t", "\\", long} {
			what := fmt.Sprintf("%q, %.5q", fiveOf(w.marks), text)
			s, err := Escape(w.marks, text)
			refused(t, "P504: Escape "+what, err, api.ErrMark, w.at)
			l, err := Split(w.marks, text)
			refused(t, "P505: Split "+what, err, api.ErrMark, w.at)
			u, err := Unescape(w.marks, text)
			refused(t, "P507: Unescape "+what, err, api.ErrMark, w.at)
			v, err := Turn(w.marks, api.Marks{}, text)
			refused(t, "P508: Turn "+what, err, api.ErrMark, w.at)
			if s != "" || l != nil || u != "" || v != "" {
				t.Errorf("%s: results beside an error: %q, %s, %q, %q", what, s, show(l), u, v)
			}
		}
		for _, l := range [][]api.Piece{nil, {{}}, {{Kind: api.PieceText, Text: "a"}}, {{Kind: api.PieceText, Text: long}}} {
			s, err := Join(w.marks, l)
			refused(t, "P506: Join", err, api.ErrMark, w.at)
			if s != "" {
				t.Errorf("P506: %q beside an error", s)
			}
		}
	}
}

func TestP505Rows(t *testing.T) {
	text := func(s string) api.Piece { return api.Piece{Kind: api.PieceText, Text: s} }
	command := func(s string, n int) api.Piece { return api.Piece{Kind: api.PieceCommand, Text: s, N: n} }
	for wire, want := range map[string][]api.Piece{
		"": nil, "abc": {text("abc")}, " \xc3\xa4\xff": {text(" \xc3\xa4\xff")}, "F.br\x80": {text("F.br\x80")},
		"\\F\\": {{Kind: api.PieceMark, Text: "F"}}, "\\S\\": {{Kind: api.PieceMark, Text: "S"}}, "\\T\\": {{Kind: api.PieceMark, Text: "T"}}, "\\R\\": {{Kind: api.PieceMark, Text: "R"}}, "\\E\\": {{Kind: api.PieceMark, Text: "E"}},
		"\\X00\\": {{Kind: api.PieceHex, Text: "\x00"}}, "\\X41FF7C\\": {{Kind: api.PieceHex, Text: "A\xff|"}}, "\\X5C\\": {{Kind: api.PieceHex, Text: "\\"}}, "\\X0123456789ABCDEF\\": {{Kind: api.PieceHex, Text: "\x01\x23\x45\x67\x89\xab\xcd\xef"}},
		"\\H\\": {{Kind: api.PieceHigh, N: 1}}, "\\N\\": {{Kind: api.PieceHigh}},
		"\\Z\\": {{Kind: api.PieceLocal}}, "\\Z09AZaz\\": {{Kind: api.PieceLocal, Text: "09AZaz"}}, "\\ZZ\\": {{Kind: api.PieceLocal, Text: "Z"}},
		"\\.br\\": {command("br", 0)}, "\\.ce\\": {command("ce", 0)}, "\\.fi\\": {command("fi", 0)}, "\\.nf\\": {command("nf", 0)}, "\\.sp\\": {command("sp", 0)},
		"\\.sp1\\": {command("sp", 1)}, "\\.sp999\\": {command("sp", 999)}, "\\.sk1\\": {command("sk", 1)}, "\\.sk20\\": {command("sk", 20)}, "\\.sk999\\": {command("sk", 999)},
		"\\.in+1\\": {command("in", 1)}, "\\.in-12\\": {command("in", -12)}, "\\.in+999\\": {command("in", 999)}, "\\.in-999\\": {command("in", -999)}, "\\.ti+30\\": {command("ti", 30)}, "\\.ti-1\\": {command("ti", -1)},
		"\\C1A2B\\": {{Kind: api.PieceSet, Text: "C1A2B"}}, "\\M1A2B\\": {{Kind: api.PieceSet, Text: "M1A2B"}}, "\\M1A2B3C\\": {{Kind: api.PieceSet, Text: "M1A2B3C"}},
		"a\\.sp3\\b":       {text("a"), command("sp", 3), text("b")},
		"\\H\\\\H\\a\\N\\": {{Kind: api.PieceHigh, N: 1}, {Kind: api.PieceHigh, N: 1}, text("a"), {Kind: api.PieceHigh}},
		"\\Z\\\\Z\\":       {{Kind: api.PieceLocal}, {Kind: api.PieceLocal}},
	} {
		if l, err := Split(common, wire); err != nil || !slices.Equal(l, want) {
			t.Errorf("P505: Split(%q): %s, %v, want %s", wire, show(l), err, show(want))
		}
		if s, err := Join(common, want); err != nil || s != wire {
			t.Errorf("P506: Join(%s): %q, %v, want %q", show(want), s, err, wire)
		}
	}
}

func TestP505RightBodiesInEveryPlace(t *testing.T) {
	for _, body := range bodies {
		p, ok := modelBody(common, body)
		if !ok {
			t.Fatalf("the test's body %q is none", body)
		}
		escape := "\\" + body + "\\"
		for _, ahead := range []string{"", "a", "\\H\\", "\xc3"} {
			for _, behind := range []string{"", "b", "\\.br\\", "\xa4"} {
				want, _ := modelSplit(common, ahead+escape+behind)
				l, err := Split(common, ahead+escape+behind)
				if err != nil || !slices.Equal(l, want) || !slices.Contains(l, p) {
					t.Errorf("P505: Split(%q): %s, %v, want %s", ahead+escape+behind, show(l), err, show(want))
				}
			}
		}
		for cut := 1; cut < len(escape); cut++ {
			_, err := Split(common, escape[:cut])
			refused(t, fmt.Sprintf("P505: Split(%q), cut off", escape[:cut]), err, api.ErrEscape, 0)
		}
	}
}

func TestP505NearBodies(t *testing.T) {
	for _, body := range nearBodies {
		for _, ahead := range []string{"", "a", "\\H\\", "a\\F\\b", "\xc3\xa4"} {
			for _, behind := range []string{"", "b", "\\N\\", "\t", "\\"} {
				wire := ahead + "\\" + body + "\\" + behind
				at := len(ahead)
				l, err := Split(common, wire)
				refused(t, fmt.Sprintf("P505: Split(%q)", wire), err, api.ErrEscape, at)
				if l != nil {
					t.Errorf("P505: Split(%q): %s beside an error", wire, show(l))
				}
				s, err := Unescape(common, wire)
				refused(t, fmt.Sprintf("P507: Unescape(%q)", wire), err, api.ErrEscape, at)
				v, err := Turn(common, other, wire)
				refused(t, fmt.Sprintf("P508: Turn(%q)", wire), err, api.ErrEscape, at)
				if s != "" || v != "" {
					t.Errorf("P507, P508: %q, %q beside an error", s, v)
				}
			}
		}
	}
}

func TestP505EveryByte(t *testing.T) {
	for _, m := range []api.Marks{common, other, marksOf(".+-/:")} {
		e := string([]byte{m.Esc})
		for b := range 256 {
			s := string([]byte{byte(b)})
			for _, wire := range []string{s, "a" + s, s + "a", "\xc3" + s, e + "F" + e + s, e + s + e, e + "F" + s + e, e + "Z" + s + e, e + "X0" + s + e, e + "C000" + s + e, e + ".sp" + s + e, e + ".in" + s + "1" + e, e + ".in+" + s + e} {
				want, at := modelSplit(m, wire)
				l, err := Split(m, wire)
				if at >= 0 {
					refused(t, fmt.Sprintf("P505: Split(%q) under %q", wire, fiveOf(m)), err, api.ErrEscape, at)
				} else if err != nil || !slices.Equal(l, want) {
					t.Errorf("P505: Split(%q) under %q: %s, %v, want %s", wire, fiveOf(m), show(l), err, show(want))
				}
			}
		}
	}
}

func TestP505MarksInBodies(t *testing.T) {
	for _, body := range []string{".br", ".ce", ".fi", ".nf", ".sp", ".sp5", ".sk5", ".in+5", ".in-5", ".ti+5", ".ti-5"} {
		for _, sign := range []string{".", "+", "-"} {
			for at := range 5 {
				five := []byte("|^~\\&")
				five[at] = sign[0]
				m := marksOf(string(five))
				e := string([]byte{m.Esc})
				wire := "a" + e + body + e
				pieces, wrong := modelSplit(common, "a\\"+body+"\\")
				if wrong >= 0 {
					t.Fatal("the test's body is none")
				}
				l, err := Split(m, wire)
				s, err2 := Join(m, pieces)
				if strings.Contains(body, sign) {
					refused(t, fmt.Sprintf("P505: Split(%q) under %q", wire, five), err, api.ErrEscape, 1)
					refused(t, fmt.Sprintf("P506: Join(%s) under %q", show(pieces), five), err2, api.ErrPiece, 1)
				} else if err != nil || !slices.Equal(l, pieces) || err2 != nil || s != wire {
					t.Errorf("P505, P506: %q under %q: %s, %v; %q, %v", wire, five, show(l), err, s, err2)
				}
			}
		}
	}
}

func TestP505Order(t *testing.T) {
	for wire, at := range map[string]int{
		"\\X0d\\": 0, "\\X\\": 0, "\\X0\\": 0, "\\.sp0\\": 0, "\\.sk\\": 0, "\\Q\\": 0, "\\": 0, "\\F": 0, "\\C12\\": 0, "ab\tc": 2, "a^b": 1, "a\\F\\\\": 4,
		"a|\\Q\\": 1, "a\\Q\\|": 1, "\\F|\\": 0, "\\F\t": 0, "\\\\": 0, "a\\\\F\\": 1, "\\F\\F\\": 4, "\xc3\xa4\t": 2, "\xe2\x82\xac|": 3, "\x7f": 0, "\x1f": 0, "ab\r": 2, "\\H\\|": 3,
	} {
		l, err := Split(common, wire)
		refused(t, fmt.Sprintf("P505: Split(%q)", wire), err, api.ErrEscape, at)
		if l != nil {
			t.Errorf("P505: Split(%q): %s beside an error", wire, show(l))
		}
	}
}

func TestP505Bounds(t *testing.T) {
	a := strings.Repeat("a", api.MaxMessage)
	for _, wire := range []string{a, a[1:], strings.Repeat("\\F\\", 2730) + "aa", a[:8189] + "\\F\\"} {
		want, _ := modelSplit(common, wire)
		if l, err := Split(common, wire); err != nil || !slices.Equal(l, want) {
			t.Errorf("P505: Split of %d bytes: %d pieces, %v", len(wire), len(l), err)
		}
	}
	for _, wire := range []string{a + "a", a + a, "\t" + a, "\\" + a, strings.Repeat("\\F\\", 2731), a + "\\"} {
		l, err := Split(common, wire)
		refused(t, fmt.Sprintf("P505: Split of %d bytes", len(wire)), err, api.ErrLong, 0)
		s, err := Unescape(common, wire)
		refused(t, fmt.Sprintf("P507: Unescape of %d bytes", len(wire)), err, api.ErrLong, 0)
		v, err := Turn(common, api.Marks{}, wire)
		refused(t, fmt.Sprintf("P508: Turn of %d bytes", len(wire)), err, api.ErrLong, 0)
		if l != nil || s != "" || v != "" {
			t.Errorf("P505: %d pieces, %q, %q beside an error", len(l), s, v)
		}
	}
	_, err := Split(common, a[1:]+"\t")
	refused(t, "P505: a wrong byte at the end of what may be", err, api.ErrEscape, 8191)
	_, err = Split(common, a[1:]+"\\")
	refused(t, "P505: an escape that is cut off at the end of what may be", err, api.ErrEscape, 8191)
}

func TestP505NumbersAndRuns(t *testing.T) {
	for n := -3; n < 1200; n++ {
		for _, name := range []string{"sp", "sk", "in+", "in-", "ti+", "ti-"} {
			for _, digits := range []string{fmt.Sprint(n), fmt.Sprintf("%02d", n), fmt.Sprintf("%04d", n)} {
				wire := "\\." + name + digits + "\\"
				want, at := modelSplit(common, wire)
				l, err := Split(common, wire)
				if at >= 0 {
					refused(t, fmt.Sprintf("P505: Split(%q)", wire), err, api.ErrEscape, 0)
				} else if err != nil || !slices.Equal(l, want) {
					t.Errorf("P505: Split(%q): %s, %v, want %s", wire, show(l), err, show(want))
				}
			}
		}
	}
	for n := range 70 {
		for _, wire := range []string{"\\X" + strings.Repeat("4A", n) + "\\", "\\X" + strings.Repeat("4", n) + "\\", "\\Z" + strings.Repeat("z", n) + "\\", "\\C" + strings.Repeat("1", n) + "\\", "\\M" + strings.Repeat("1", n) + "\\"} {
			want, at := modelSplit(common, wire)
			l, err := Split(common, wire)
			if at >= 0 {
				refused(t, fmt.Sprintf("P505: Split(%q)", wire), err, api.ErrEscape, 0)
			} else if err != nil || !slices.Equal(l, want) {
				t.Errorf("P505: Split(%q): %s, %v, want %s", wire, show(l), err, show(want))
			}
		}
	}
}

func TestP506EveryKindTextAndNumber(t *testing.T) {
	texts := []string{"", "F", "S", "T", "R", "E", "H", "N", "X", "Z", "f", "A", "FS", "br", "ce", "fi", "nf", "sp", "sk", "in", "ti", "BR", ".br", "sp1", "in+", "in+1", "ti-1", "C", "M", "C0000", "CFFFF", "C000", "C00000", "C000000", "c0000", "C00a0", "M0000", "M000000", "M00000", "M0000000", "M00000g", "X00", "Zz", "a", " ", "|", "\\", "^", "&", "~", "\r", "\x00", "\x7f", "\xff", "\xc3\xa4", "a\t", "a|", "|a", "9Zz", "a-", ".", "+", "-",
		strings.Repeat("a", 32), strings.Repeat("a", 33), strings.Repeat("\x00", 63), strings.Repeat("\x00", 64), strings.Repeat("\x00", 65), strings.Repeat("x", 8192)}
	numbers := []int{0, 1, 2, -1, -2, 9, 10, 12, 99, 100, 998, 999, 1000, 1001, -998, -999, -1000, math.MaxInt, math.MinInt, math.MinInt + 1}
	for _, m := range []api.Marks{common, other, marksOf("|^~\\."), marksOf("|+~\\&"), marksOf("-^~\\&")} {
		for kind := -2; kind < 11; kind++ {
			for _, text := range texts {
				for _, n := range numbers {
					joinsLikeModel(t, m, []api.Piece{{Kind: kind, Text: text, N: n}})
				}
			}
		}
	}
}

func joinsLikeModel(t *testing.T, m api.Marks, pieces []api.Piece) {
	t.Helper()
	want, at := modelJoin(m, pieces)
	got, err := Join(m, pieces)
	switch {
	case at >= 0:
		refused(t, fmt.Sprintf("P506: Join(%s) under %q", show(pieces), fiveOf(m)), err, api.ErrPiece, at)
	case len(want) > api.MaxMessage:
		refused(t, fmt.Sprintf("P506: Join to %d bytes", len(want)), err, api.ErrLong, 0)
	case err != nil || got != want:
		t.Errorf("P506: Join(%s) under %q: %q, %v, want %q", show(pieces), fiveOf(m), got, err, want)
	}
	if err != nil && got != "" {
		t.Errorf("P506: %q beside an error", got)
	}
}

func TestP506KindsAndExtremes(t *testing.T) {
	for _, kind := range []int{0, -1, 8, 9, math.MaxInt, math.MinInt} {
		_, err := Join(common, []api.Piece{{Kind: kind, Text: "F"}})
		refused(t, fmt.Sprintf("P506: kind %d", kind), err, api.ErrPiece, 0)
	}
	// Pieces whose letters would make a right body of another piece.
	for _, p := range []api.Piece{
		{Kind: api.PieceMark, Text: "H"}, {Kind: api.PieceMark, Text: "N"}, {Kind: api.PieceMark, Text: ".br"}, {Kind: api.PieceSet, Text: "F"}, {Kind: api.PieceSet, Text: "X00"}, {Kind: api.PieceHigh, Text: "H", N: 1}, {Kind: api.PieceHigh, Text: "N"}, {Kind: api.PieceHigh, Text: "F", N: 7},
		{Kind: api.PieceCommand, Text: "sp1"}, {Kind: api.PieceCommand, Text: "sp", N: -1}, {Kind: api.PieceCommand, Text: "sp1", N: 2}, {Kind: api.PieceCommand, Text: "in+", N: 5}, {Kind: api.PieceCommand, Text: "in", N: 0}, {Kind: api.PieceCommand, Text: "sk", N: 0}, {Kind: api.PieceHigh, N: 2}, {Kind: api.PieceHigh, N: -1},
		{Kind: api.PieceCommand}, {Kind: api.PieceCommand, Text: "br", N: 1}, {Kind: api.PieceMark, Text: "F", N: 1}, {Kind: api.PieceHex, Text: "a", N: 1}, {Kind: api.PieceLocal, Text: "a", N: 1}, {Kind: api.PieceSet, Text: "C0000", N: 1}, {Kind: api.PieceText, Text: "a", N: 1}, {Kind: 0, Text: "F"}, {Kind: 0, Text: "C0000"},
	} {
		for _, ahead := range [][]api.Piece{nil, {{Kind: api.PieceText, Text: "a"}}, {{Kind: api.PieceHigh}, {Kind: api.PieceText, Text: "a"}, {Kind: api.PieceHigh}}} {
			_, err := Join(common, append(slices.Clone(ahead), p))
			refused(t, "P506: "+show([]api.Piece{p}), err, api.ErrPiece, len(ahead))
		}
	}
}

func TestP506Places(t *testing.T) {
	text, high := api.Piece{Kind: api.PieceText, Text: "a"}, api.Piece{Kind: api.PieceHigh}
	for _, c := range []struct {
		pieces []api.Piece
		at     int
	}{
		{[]api.Piece{text, text}, 1},
		{[]api.Piece{text, high, text, text}, 3},
		{[]api.Piece{text, text, {}}, 1},
		{[]api.Piece{text, {}, text, text}, 1},
		{[]api.Piece{{Kind: api.PieceText}, text}, 0},
		{[]api.Piece{high, {Kind: api.PieceText, Text: "a\\"}}, 1},
		{[]api.Piece{high, {Kind: api.PieceText, Text: "\xc3\t"}, {}}, 1},
		{[]api.Piece{text, {Kind: api.PieceText}}, 1},
	} {
		s, err := Join(common, c.pieces)
		refused(t, "P506: Join("+show(c.pieces)+")", err, api.ErrPiece, c.at)
		if s != "" {
			t.Errorf("P506: Join(%s): %q beside an error", show(c.pieces), s)
		}
	}
	for _, l := range [][]api.Piece{nil, {}} {
		if s, err := Join(common, l); err != nil || s != "" {
			t.Errorf("P506: Join of nothing: %q, %v", s, err)
		}
	}
	if s, err := Join(common, []api.Piece{text, high, text, high, high}); err != nil || s != "a\\N\\a\\N\\\\N\\" {
		t.Errorf("P506: texts that something parts: %q, %v", s, err)
	}
}

func TestP506Bounds(t *testing.T) {
	high := api.Piece{Kind: api.PieceHigh}
	text := func(n int) api.Piece { return api.Piece{Kind: api.PieceText, Text: strings.Repeat("a", n)} }
	highs := slices.Repeat([]api.Piece{high}, 2730)
	for _, l := range [][]api.Piece{{text(8192)}, {text(8189), high}, append(slices.Clone(highs), text(2)), {high, text(8189)}} {
		if s, err := Join(common, l); err != nil || len(s) != api.MaxMessage {
			t.Errorf("P506: up to the bound: %d bytes, %v", len(s), err)
		}
	}
	for _, l := range [][]api.Piece{{text(8193)}, {text(8190), high}, append(slices.Clone(highs), text(3)), append(slices.Clone(highs), high), {high, text(8190)}, {text(1 << 20)}} {
		s, err := Join(common, l)
		refused(t, "P506: one beyond the bound", err, api.ErrLong, 0)
		if s != "" {
			t.Errorf("P506: %d bytes beside an error", len(s))
		}
		for _, wrong := range []api.Piece{{}, {Kind: api.PieceMark, Text: "X"}, {Kind: api.PieceText}} {
			_, err := Join(common, append(slices.Clone(l), wrong))
			refused(t, "P506: a wrong piece behind too many bytes", err, api.ErrPiece, len(l))
		}
	}
}

func TestP506LeavesItsPieces(t *testing.T) {
	room := []api.Piece{{Kind: api.PieceText, Text: "a"}, {Kind: api.PieceCommand, Text: "sp", N: 3}, {Kind: api.PieceLocal, Text: "behind"}, {Kind: api.PieceMark, Text: "F"}}
	was := slices.Clone(room)
	if s, err := Join(common, room[:2]); err != nil || s != "a\\.sp3\\" {
		t.Errorf("P506: %q, %v", s, err)
	}
	if !slices.Equal(room, was) {
		t.Errorf("Memory: the pieces and what is behind them became %s", show(room))
	}
}

func TestP507Unescape(t *testing.T) {
	for wire, plain := range map[string]string{
		"": "", "abc": "abc", "\\T\\\\H\\x\\N\\": "&x", "a\\.sp3\\b": "a\n\n\n\nb", "\\.br\\\\.sk2\\\\Zab\\": "\n  ", "\\X4142\\": "AB", "\\F\\\\S\\\\T\\\\R\\\\E\\": "|^&~\\",
		"\\.br\\": "\n", "\\.ce\\": "", "\\.fi\\": "", "\\.nf\\": "", "\\.sp\\": "\n", "\\.sp1\\": "\n\n", "\\.sk1\\": " ", "\\.in+5\\": "", "\\.in-5\\": "", "\\.ti+5\\": "", "\\.ti-5\\": "",
		"\\C1234\\": "", "\\M1234\\": "", "\\M123456\\": "", "\\Z\\": "", "\\Zabc\\": "", "\\H\\": "", "\\N\\": "", "\\X5C465C\\": "\\F\\", "\\X00FF\\\xff": "\x00\xff\xff", "\\E\\F\\E\\": "\\F\\",
		"\\.sk999\\": strings.Repeat(" ", 999), "\\.sp999\\": strings.Repeat("\n", 1000), "\xc3\xa4\\XC3\\\xa4": "\xc3\xa4\xc3\xa4",
	} {
		if s, err := Unescape(common, wire); err != nil || s != plain {
			t.Errorf("P507: Unescape(%q): %q, %v, want %q", wire, s, err, plain)
		}
	}
	if s, err := Unescape(other, "!F!!S!!T!!R!!E!|\\F\\"); err != nil || s != "#$?%!|\\F\\" {
		t.Errorf("P507: other marks: %q, %v", s, err)
	}
}

func TestP507Longest(t *testing.T) {
	wire := strings.Repeat("\\.sp999\\", 1024)
	s, err := Unescape(common, wire)
	if err != nil || len(wire) != api.MaxMessage || len(s) != 125*len(wire) || strings.Trim(s, "\n") != "" {
		t.Errorf("P507: %d bytes of plain text, %v", len(s), err)
	}
}

func TestP508Turn(t *testing.T) {
	for _, c := range []struct{ from, to, wire, want string }{
		{"|^~\\&", "#$%!?", "a\\F\\b#c\\H\\", "a|b!F!c!H!"},
		{"|^~\\&", "|^~\\&", "\\F\\", "\\F\\"},
		{"|^~\\&", "#$%!?", "", ""},
		{"|^~\\&", "#$%!?", "\\F\\\\S\\\\R\\\\E\\\\T\\", "|^~\\&"},
		{"#$%!?", "|^~\\&", "|^~\\&", "\\F\\\\S\\\\R\\\\E\\\\T\\"},
		{"|^~\\&", "^|~\\&", "\\F\\\\S\\", "\\S\\\\F\\"},
		{"|^~\\&", "|^~&\\", "\\E\\\\T\\\\N\\", "&T&&E&&N&"},
		{"|^~\\&", "#$%!?", "\\X23240D\\", "!X23240D!"},
		{"|^~\\&", "#$%!?", "#$%!?", "!F!!S!!R!!E!!T!"},
		{"|^~\\&", "#$%!?", "\\.in-5\\\\.sp\\\\.sk3\\\\C1234\\\\M123456\\\\Zq\\\\N\\", "!.in-5!!.sp!!.sk3!!C1234!!M123456!!Zq!!N!"},
		{"|^~\\&", ".+-/:", "\\H\\\\X00\\a.b+c-d", "/H//X00/a/F/b/S/c/R/d"},
		{"|^~\\&", "+^~\\&", "\\.in-5\\+", "\\.in-5\\\\F\\"},
		{"|^~\\&", "#$%!?", "\xc3\xa4\\T\\\xff", "\xc3\xa4&\xff"},
	} {
		if s, err := Turn(marksOf(c.from), marksOf(c.to), c.wire); err != nil || s != c.want {
			t.Errorf("P508: Turn from %q to %q of %q: %q, %v, want %q", c.from, c.to, c.wire, s, err, c.want)
		}
	}
}

func TestP508MarksInBodies(t *testing.T) {
	for _, c := range []struct {
		to, wire string
		at       int
	}{
		{"|^~\\.", "a\\.br\\", 1}, {".^~\\&", "\\.sp3\\", 0}, {"|^~.&", "\\H\\a\\.ce\\", 2}, {"|+~\\&", "\\.in-1\\\\.in+1\\", 1}, {"|^-\\&", "\\.in+1\\\\.ti-1\\", 1},
		{"|^~\\.", "\\.br\\\\.br\\", 0}, {"|^~\\.", "a.b\\F\\c\\.nf\\d", 3}, {".+-\\&", "\\.sk7\\", 0},
	} {
		s, err := Turn(common, marksOf(c.to), c.wire)
		refused(t, fmt.Sprintf("P508: Turn to %q of %q", c.to, c.wire), err, api.ErrPiece, c.at)
		if s != "" {
			t.Errorf("P508: Turn to %q of %q: %q beside an error", c.to, c.wire, s)
		}
	}
}

func TestP508EveryRightBodyBetweenMarks(t *testing.T) {
	all := []api.Marks{common, other, marksOf("|^~\\."), marksOf("|^~.&"), marksOf("+^~\\&"), marksOf("|-~\\&"), marksOf("&\\~^|"), marksOf(".+-/:")}
	for _, from := range all {
		e := string([]byte{from.Esc})
		for _, to := range all {
			for _, body := range bodies {
				wire := "|.+-#a"
				wire = strings.Map(func(r rune) rune {
					if modelPlain(from, byte(r)) {
						return r
					}
					return 'x'
				}, wire)
				if _, ok := modelBody(from, body); ok {
					turnsLikeModel(t, from, to, wire+e+body+e+wire)
				}
			}
		}
	}
}

func TestP508Order(t *testing.T) {
	dots := marksOf("|^~\\.")
	long := strings.Repeat("a", api.MaxMessage+1)
	_, err := Turn(api.Marks{}, api.Marks{}, "\t")
	refused(t, "P508: wrong Marks, both", err, api.ErrMark, 0)
	_, err = Turn(marksOf("|^~^&"), marksOf("|^~\\|"), long)
	refused(t, "P508: Valid's error of from ahead of all", err, api.ErrMark, 3)
	_, err = Turn(common, marksOf("|^~\\|"), long)
	refused(t, "P508: ErrLong of wire ahead of to", err, api.ErrLong, 0)
	_, err = Turn(common, marksOf("|^~\\|"), "a\t")
	refused(t, "P508: ErrEscape ahead of to", err, api.ErrEscape, 1)
	for _, w := range wrongMarks {
		s, err := Turn(common, w.marks, "\\.br\\")
		refused(t, "P508: Valid's error of to", err, api.ErrMark, w.at)
		if s != "" {
			t.Errorf("P508: %q beside an error", s)
		}
	}
	_, err = Turn(common, dots, strings.Repeat(".", 8000)+"\\.br\\")
	refused(t, "P508: ErrPiece ahead of too many bytes", err, api.ErrPiece, 1)
	_, err = Turn(common, dots, strings.Repeat(".", 8000))
	refused(t, "P508: too many bytes", err, api.ErrLong, 0)
}

func TestP508Bounds(t *testing.T) {
	for _, wire := range []string{strings.Repeat("#", 2730) + "aa", strings.Repeat("a", 8189) + "#", strings.Repeat("a", 8192), "!" + strings.Repeat("a", 8186) + "\\H\\", strings.Repeat("\\F\\", 2730) + "##"} {
		want, _ := modelTurn(common, other, wire)
		if s, err := Turn(common, other, wire); err != nil || s != want || len(s) > api.MaxMessage {
			t.Errorf("P508: Turn of %d bytes: %d bytes, %v", len(wire), len(s), err)
		}
	}
	for _, wire := range []string{strings.Repeat("#", 2731), strings.Repeat("#", 2730) + "aaa", strings.Repeat("a", 8190) + "#", strings.Repeat("#", 8192), "!" + strings.Repeat("a", 8187) + "\\H\\"} {
		s, err := Turn(common, other, wire)
		refused(t, fmt.Sprintf("P508: Turn of %d bytes", len(wire)), err, api.ErrLong, 0)
		if s != "" {
			t.Errorf("P508: %d bytes beside an error", len(s))
		}
	}
}

func TestAnswersShareNothing(t *testing.T) {
	wire := "a\\.sp3\\b\\H\\"
	one, _ := Split(common, wire)
	two, _ := Split(common, wire)
	was := slices.Clone(two)
	for i := range one[:cap(one)] {
		one[:cap(one)][i] = api.Piece{Kind: 9, Text: "z", N: 9}
	}
	three, _ := Split(common, wire)
	if !slices.Equal(two, was) || !slices.Equal(three, was) {
		t.Errorf("Memory: writing in one answer changed another: %s, %s", show(two), show(three))
	}
}

// TestP510Again: the answers hang on the arguments alone, whatever was asked in between.
func TestP510Again(t *testing.T) {
	ask := func() string {
		s := ""
		for _, m := range []api.Marks{common, other, {}, marksOf("|^~\\.")} {
			for _, x := range []string{"", "a|b\r", "\\F\\#\\.br\\", "!F!", "\xff\\", "MSH|^~\\&"} {
				head, e1 := Head(x, m)
				marks, e2 := Read(x)
				wire, e3 := Escape(m, x)
				pieces, e4 := Split(m, x)
				joined, e5 := Join(m, pieces)
				plain, e6 := Unescape(m, x)
				turned, e7 := Turn(m, other, x)
				s += fmt.Sprintf("%v %q %v %q %v %q %v %s %v %q %v %q %v %q %v\n", Valid(m), head, e1, fiveOf(marks), e2, wire, e3, show(pieces), e4, joined, e5, plain, e6, turned, e7)
			}
		}
		return s
	}
	first := ask()
	for range 3 {
		if again := ask(); again != first {
			t.Fatalf("P510: asked again:\n%s\nfirst:\n%s", again, first)
		}
	}
}

// FuzzP510 looks for a panic, and holds what is answered against the model.
func FuzzP510(f *testing.F) {
	f.Add("|^~\\&", "#$%!?", "a\\.sp3\\b\\F\\#\xff")
	f.Add("|^~\\.", "||~\\&", "\\.br\\\r")
	f.Fuzz(func(t *testing.T, from, to, text string) {
		if len(from) < 5 || len(to) < 5 || len(text) > api.MaxMessage {
			return
		}
		m, n := marksOf(from), marksOf(to)
		Read(text)
		Head(text, m)
		wire, err := Escape(m, text)
		if err == nil {
			carries(t, m, text, wire)
		}
		pieces, err := Split(m, text)
		Join(n, pieces)
		if _, at := modelSplit(m, text); Valid(m) == nil && (at < 0) != (err == nil) {
			t.Fatalf("P505: Split(%q) under %q: %v, want place %d", text, fiveOf(m), err, at)
		}
		turned, err := Turn(m, n, text)
		if want, at := modelTurn(m, n, text); err == nil && (at >= 0 || turned != want) {
			t.Fatalf("P508: Turn(%q): %q, want %q, place %d", text, turned, want, at)
		}
	})
}

// TestKinds: the kinds that are counted here are api's.
func TestKinds(t *testing.T) {
	if [...]int{textKind, markKind, hexKind, highKind, localKind, commandKind, setKind} != [...]int{api.PieceText, api.PieceMark, api.PieceHex, api.PieceHigh, api.PieceLocal, api.PieceCommand, api.PieceSet} {
		t.Error("the kinds of pieces are not api's")
	}
}
