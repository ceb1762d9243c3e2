package esc

import (
	"fmt"
	"math/rand"
	"regexp"
	"slices"
	"strconv"
	"strings"
	"testing"

	"courier/api"
)

// The chapter's rules a second time, byte by byte and by patterns, to hold the package's answers against.

const allMarks = "!\"#$%&'()*+,-./:;<=>?@[\\]^_`{|}~"

func marksOf(five string) api.Marks {
	return api.Marks{Field: five[0], Comp: five[1], Rep: five[2], Esc: five[3], Sub: five[4]}
}

func fiveOf(m api.Marks) string {
	return string([]byte{m.Field, m.Comp, m.Rep, m.Esc, m.Sub})
}

func modelPlain(m api.Marks, b byte) bool {
	return b >= 0x20 && b != 0x7F && strings.IndexByte(fiveOf(m), b) < 0
}

var rows = []struct {
	pattern *regexp.Regexp
	piece   func(g []string) api.Piece
}{
	{regexp.MustCompile(`^([FSTRE])$`), func(g []string) api.Piece { return api.Piece{Kind: api.PieceMark, Text: g[1]} }},
	{regexp.MustCompile(`^X((?:[0-9A-F]{2}){1,64})$`), func(g []string) api.Piece {
		var p api.Piece
		p.Kind = api.PieceHex
		for i := 0; i < len(g[1]); i += 2 {
			n, _ := strconv.ParseUint(g[1][i:i+2], 16, 8)
			p.Text += string([]byte{byte(n)})
		}
		return p
	}},
	{regexp.MustCompile(`^H$`), func([]string) api.Piece { return api.Piece{Kind: api.PieceHigh, N: 1} }},
	{regexp.MustCompile(`^N$`), func([]string) api.Piece { return api.Piece{Kind: api.PieceHigh} }},
	{regexp.MustCompile(`^Z([0-9A-Za-z]{0,32})$`), func(g []string) api.Piece { return api.Piece{Kind: api.PieceLocal, Text: g[1]} }},
	{regexp.MustCompile(`^\.(br|ce|fi|nf|sp)$`), func(g []string) api.Piece { return api.Piece{Kind: api.PieceCommand, Text: g[1]} }},
	{regexp.MustCompile(`^\.(sp|sk)([1-9][0-9]{0,2})$`), counts},
	{regexp.MustCompile(`^\.(in|ti)([+-][1-9][0-9]{0,2})$`), counts},
	{regexp.MustCompile(`^(C[0-9A-F]{4}|M[0-9A-F]{4}|M[0-9A-F]{6})$`), func(g []string) api.Piece { return api.Piece{Kind: api.PieceSet, Text: g[1]} }},
}

func counts(g []string) api.Piece {
	n, _ := strconv.Atoi(g[2])
	return api.Piece{Kind: api.PieceCommand, Text: g[1], N: n}
}

func modelBody(m api.Marks, body string) (api.Piece, bool) {
	if strings.ContainsAny(body, fiveOf(m)) {
		return api.Piece{}, false
	}
	for _, row := range rows {
		if g := row.pattern.FindStringSubmatch(body); g != nil {
			return row.piece(g), true
		}
	}
	return api.Piece{}, false
}

// modelSplit answers the pieces, and where it goes wrong (-1: nowhere).
func modelSplit(m api.Marks, wire string) ([]api.Piece, int) {
	var out []api.Piece
	for i := 0; i < len(wire); {
		n := 0
		for i+n < len(wire) && modelPlain(m, wire[i+n]) {
			n++
		}
		if n > 0 {
			out = append(out, api.Piece{Kind: api.PieceText, Text: wire[i : i+n]})
			i += n
			continue
		}
		if wire[i] != m.Esc {
			return nil, i
		}
		end := strings.IndexByte(wire[i+1:], m.Esc)
		if end < 0 {
			return nil, i
		}
		p, ok := modelBody(m, wire[i+1:i+1+end])
		if !ok {
			return nil, i
		}
		out = append(out, p)
		i += end + 2
	}
	return out, -1
}

func modelPlainText(m api.Marks, pieces []api.Piece) string {
	var s strings.Builder
	for _, p := range pieces {
		switch {
		case p.Kind == api.PieceText, p.Kind == api.PieceHex:
			s.WriteString(p.Text)
		case p.Kind == api.PieceMark:
			s.WriteByte(map[string]byte{"F": m.Field, "S": m.Comp, "T": m.Sub, "R": m.Rep, "E": m.Esc}[p.Text])
		case p.Kind == api.PieceCommand && p.Text == "br":
			s.WriteString("\n")
		case p.Kind == api.PieceCommand && p.Text == "sp":
			for range p.N + 1 {
				s.WriteString("\n")
			}
		case p.Kind == api.PieceCommand && p.Text == "sk":
			for range p.N {
				s.WriteString(" ")
			}
		}
	}
	return s.String()
}

func modelEscape(m api.Marks, text string) string {
	e := string([]byte{m.Esc})
	var s strings.Builder
	for i := 0; i < len(text); i++ {
		b := text[i]
		if modelPlain(m, b) {
			s.WriteByte(b)
			continue
		}
		if at := strings.IndexByte(fiveOf(m), b); at >= 0 {
			s.WriteString(e + "FSRET"[at:at+1] + e)
			continue
		}
		s.WriteString(e + "X")
		n := 0
		for ; n < 64 && i+n < len(text) && (text[i+n] < 0x20 || text[i+n] == 0x7F); n++ {
			s.WriteString(fmt.Sprintf("%02X", text[i+n]))
		}
		s.WriteString(e)
		i += n - 1
	}
	return s.String()
}

// modelBodyOf writes the body of a piece other than a text, by each row's own words.
func modelBodyOf(p api.Piece) (string, bool) {
	counted := p.N >= 1 && p.N <= 999
	switch {
	case p.Kind == api.PieceMark && p.N == 0 && len(p.Text) == 1 && strings.Contains("FSTRE", p.Text):
		return p.Text, true
	case p.Kind == api.PieceHex && p.N == 0 && len(p.Text) >= 1 && len(p.Text) <= 64:
		return fmt.Sprintf("X%X", p.Text), true
	case p == api.Piece{Kind: api.PieceHigh, N: 1}:
		return "H", true
	case p == api.Piece{Kind: api.PieceHigh}:
		return "N", true
	case p.Kind == api.PieceLocal && p.N == 0 && regexp.MustCompile(`^[0-9A-Za-z]{0,32}$`).MatchString(p.Text):
		return "Z" + p.Text, true
	case p.Kind == api.PieceCommand && p.N == 0 && slices.Contains([]string{"br", "ce", "fi", "nf", "sp"}, p.Text):
		return "." + p.Text, true
	case p.Kind == api.PieceCommand && counted && slices.Contains([]string{"sp", "sk"}, p.Text):
		return fmt.Sprintf(".%s%d", p.Text, p.N), true
	case p.Kind == api.PieceCommand && (counted || p.N >= -999 && p.N <= -1) && slices.Contains([]string{"in", "ti"}, p.Text):
		return fmt.Sprintf(".%s%+d", p.Text, p.N), true
	case p.Kind == api.PieceSet && p.N == 0 && regexp.MustCompile(`^(C[0-9A-F]{4}|M[0-9A-F]{4}|M[0-9A-F]{6})$`).MatchString(p.Text):
		return p.Text, true
	}
	return "", false
}

// modelJoin answers the wire text, or the first piece for which there is none.
func modelJoin(m api.Marks, pieces []api.Piece) (string, int) {
	e := string([]byte{m.Esc})
	var s strings.Builder
	for i, p := range pieces {
		if p.Kind == api.PieceText {
			if p.Text == "" || p.N != 0 || i > 0 && pieces[i-1].Kind == api.PieceText {
				return "", i
			}
			for j := range len(p.Text) {
				if !modelPlain(m, p.Text[j]) {
					return "", i
				}
			}
			s.WriteString(p.Text)
			continue
		}
		body, ok := modelBodyOf(p)
		if !ok || strings.ContainsAny(body, fiveOf(m)) {
			return "", i
		}
		s.WriteString(e + body + e)
	}
	return s.String(), -1
}

// modelTurn answers the wire text, or the first piece in whose body a mark of to would stand. wire is right under from.
func modelTurn(from, to api.Marks, wire string) (string, int) {
	e := string([]byte{to.Esc})
	pieces, _ := modelSplit(from, wire)
	out := ""
	for i, p := range pieces {
		if p.Kind == api.PieceText || p.Kind == api.PieceMark {
			out += modelEscape(to, modelPlainText(from, pieces[i:i+1]))
			continue
		}
		body, _ := modelBodyOf(p)
		if strings.ContainsAny(body, fiveOf(to)) {
			return "", i
		}
		out += e + body + e
	}
	return out, -1
}

func randomMarks(r *rand.Rand) api.Marks {
	five := ""
	for _, at := range r.Perm(len(allMarks))[:5] {
		five += allMarks[at : at+1]
	}
	return marksOf(five)
}

// mixedMarks has . + - among the marks more often than chance would.
func mixedMarks(r *rand.Rand) api.Marks {
	five := []byte(fiveOf(randomMarks(r)))
	b := ".+-|^"[r.Intn(5)]
	if r.Intn(2) == 0 && !slices.Contains(five, b) {
		five[r.Intn(5)] = b
	}
	return marksOf(string(five))
}

var bodies = []string{
	"F", "S", "T", "R", "E", "X00", "XFF", "X0D0A", "X41", "X" + strings.Repeat("7F", 63), "X" + strings.Repeat("00", 64), "H", "N",
	"Z", "Za", "Z0Az9", "Z" + strings.Repeat("z", 32), ".br", ".ce", ".fi", ".nf", ".sp", ".sp1", ".sp9", ".sp10", ".sp99", ".sp100", ".sp999",
	".sk1", ".sk10", ".sk999", ".in+1", ".in-1", ".in+999", ".in-999", ".ti+12", ".ti-345", "C0000", "CFFFF", "M1A2B", "M1A2B3C",
}

var nearBodies = []string{
	"", "A", "f", "FF", "F1", "Q", "e", "h", "HN", "n", "X", "X0", "X000", "x00", "X0d", "XG0", "X0G", "X 0", "X0 ", "X00 ", "X" + strings.Repeat("00", 65), "X" + strings.Repeat("0", 127), "X" + strings.Repeat("0", 129), "X\xc3\xa4",
	"z", "Z.", "Z-", "Z ", "Z" + strings.Repeat("z", 33), "Z\xe4", "Z\xc3\xa4", "Z\x00", ".", ".b", ".BR", ".br1", ".br ", "br", "..br", ".ce0", ".fi1", ".nf+1", ".sp0", ".sp00", ".sp01", ".sp+1", ".sp-1", ".sp1000", ".sp9999999999999999999999", ".sp18446744073709551617", ".sp1a", ".sp ", ".sp1 ", ".s", ".spp",
	".sk", ".sk0", ".sk01", ".sk1000", ".sk-1", ".sk+1", ".in", ".in1", ".in+", ".in-", ".in0", ".in+0", ".in-0", ".in+01", ".in+1000", ".in-1000", ".in++1", ".in+-1", ".in+1.", ".ti", ".ti5", ".ti+", ".tx+1", ".Ti+1", ".in\xe4", ".sp\xd9\xa1",
	"C", "C000", "C00000", "C000G", "C00a0", "c0000", "C000000", "M", "M000", "M00000", "M0000000", "M000g", "M00000G", "m0000", "MC0000", "CM0000", "\r", "F\r", "\rF", " F", "F ", "\x00", "\x7f", "\xff",
}

// randomWire strings together right escapes, plain bytes, and now and then something that may be wrong.
func randomWire(r *rand.Rand, m api.Marks, wrong bool) string {
	e := string([]byte{m.Esc})
	s := ""
	for range r.Intn(8) {
		switch r.Intn(5) {
		case 0, 1:
			body := bodies[r.Intn(len(bodies))]
			if !strings.ContainsAny(body, fiveOf(m)) || wrong {
				s += e + body + e
			}
		case 2, 3:
			s += randomPlain(r, m)
		case 4:
			if wrong && r.Intn(3) == 0 {
				s += []string{string([]byte{byte(r.Intn(256))}), fiveOf(m)[r.Intn(5):][:1], e + nearBodies[r.Intn(len(nearBodies))] + e}[r.Intn(3)]
			}
		}
	}
	return s
}

func randomPlain(r *rand.Rand, m api.Marks) string {
	s := []string{"a", "Bc", " ", allMarks, "\xc3\xa4", "\xe2\x82\xac", "\xff\xfe", "\xc3", "\xef\xbf\xbd", "F", "X00", ".br", "+1", "\x80"}[r.Intn(14)]
	out := ""
	for i := range len(s) {
		if modelPlain(m, s[i]) {
			out += s[i : i+1]
		}
	}
	return out
}

func randomText(r *rand.Rand) string {
	s := ""
	for range r.Intn(6) {
		switch r.Intn(5) {
		case 0:
			s += strings.Repeat(string([]byte{[]byte("\x00\x1f\x7f\r\n\t\x0b\x1c")[r.Intn(8)]}), []int{1, 2, 63, 64, 65, 128, 129}[r.Intn(7)])
		case 1:
			s += string([]byte{byte(r.Intn(256)), byte(r.Intn(256))})
		case 2:
			s += allMarks[r.Intn(32):]
		default:
			s += []string{"abc", "\xc3\xa4", "\xff", "\\.br\\", "\\F\\", "|"}[r.Intn(6)]
		}
	}
	return s
}

func randomPiece(r *rand.Rand) api.Piece {
	texts := []string{"", "F", "S", "T", "R", "E", "H", "br", "ce", "fi", "nf", "sp", "sk", "in", "ti", "C12AB", "M12AB", "M12AB34", "a", "\xe4", "\x00", "sp3", "in+1", "X00", "Zz", strings.Repeat("a", 32), strings.Repeat("a", 33), strings.Repeat("b", 64), strings.Repeat("b", 65), "+", "-", ".", "|", "\\"}
	numbers := []int{0, 0, 0, 1, 2, 12, 999, 1000, -1, -999, -1000, 1 << 62, -1 << 63}
	return api.Piece{Kind: r.Intn(9), Text: texts[r.Intn(len(texts))], N: numbers[r.Intn(len(numbers))]}
}

// rightPiece is a piece as a row of the table has it, whatever the marks are.
func rightPiece(r *rand.Rand, m api.Marks) api.Piece {
	if r.Intn(3) == 0 {
		return api.Piece{Kind: api.PieceText, Text: "a" + randomPlain(r, m)}
	}
	none := marksOf("|^~\\&")
	p, _ := modelBody(none, bodies[r.Intn(len(bodies))])
	return p
}

func TestRandomWiresAgainstModel(t *testing.T) {
	r := rand.New(rand.NewSource(501))
	taken, refusals := 0, 0
	for range 60000 {
		m := mixedMarks(r)
		wire := randomWire(r, m, r.Intn(2) == 0)
		want, at := modelSplit(m, wire)
		got, err := Split(m, wire)
		plain, err2 := Unescape(m, wire)
		if at >= 0 {
			refusals++
			what := fmt.Sprintf("%q under %q", wire, fiveOf(m))
			refused(t, "P505: Split "+what, err, api.ErrEscape, at)
			refused(t, "P507: Unescape "+what, err2, api.ErrEscape, at)
			if got != nil || plain != "" {
				t.Fatalf("beside an error: %s, %q", show(got), plain)
			}
			continue
		}
		taken++
		if err != nil || !slices.Equal(got, want) {
			t.Fatalf("P505: Split(%q) under %q: %s, %v, want %s", wire, fiveOf(m), show(got), err, show(want))
		}
		if err2 != nil || plain != modelPlainText(m, want) {
			t.Fatalf("P507: Unescape(%q) under %q: %q, %v", wire, fiveOf(m), plain, err2)
		}
		if back, err := Join(m, got); err != nil || back != wire {
			t.Fatalf("P509: Join(Split(%q)) under %q: %q, %v", wire, fiveOf(m), back, err)
		}
		turnsLikeModel(t, m, mixedMarks(r), wire)
	}
	if taken < 1000 || refusals < 1000 {
		t.Errorf("the runs were %d that are taken and %d that are refused: too few", taken, refusals)
	}
}

// turnsLikeModel holds Turn of a right wire text against the model's.
func turnsLikeModel(t *testing.T, from, to api.Marks, wire string) {
	t.Helper()
	what := fmt.Sprintf("Turn of %q from %q to %q", wire, fiveOf(from), fiveOf(to))
	want, at := modelTurn(from, to, wire)
	got, err := Turn(from, to, wire)
	if at >= 0 {
		refused(t, "P508: "+what, err, api.ErrPiece, at)
		if got != "" {
			t.Fatalf("P508: %s: %q beside an error", what, got)
		}
		return
	}
	if err != nil || got != want {
		t.Fatalf("P508: %s: %q, %v, want %q", what, got, err, want)
	}
	before, _ := Unescape(from, wire)
	if after, err := Unescape(to, got); err != nil || after != before {
		t.Fatalf("P509: %s: the plain text was %q, is %q, %v", what, before, after, err)
	}
	if same, err := Turn(from, from, wire); err != nil || same != wire {
		t.Fatalf("P509: %s: to itself: %q, %v", what, same, err)
	}
}

func TestRandomTextsAgainstModel(t *testing.T) {
	r := rand.New(rand.NewSource(504))
	for range 30000 {
		m, text := mixedMarks(r), randomText(r)
		got, err := Escape(m, text)
		if want := modelEscape(m, text); err != nil || got != want {
			t.Fatalf("P504: Escape(%q) under %q: %q, %v, want %q", text, fiveOf(m), got, err, want)
		}
		carries(t, m, text, got)
	}
}

// carries holds an escaped text against what P509 says of it.
func carries(t *testing.T, m api.Marks, text, wire string) {
	t.Helper()
	if back, err := Unescape(m, wire); err != nil || back != text {
		t.Fatalf("P509: Unescape(Escape(%q)) under %q: %q, %v", text, fiveOf(m), back, err)
	}
	for i := range len(wire) {
		if b := wire[i]; b != m.Esc && !modelPlain(m, b) {
			t.Fatalf("P509: Escape(%q) under %q has the byte %#x: %q", text, fiveOf(m), b, wire)
		}
	}
}

func TestRandomPiecesAgainstModel(t *testing.T) {
	r := rand.New(rand.NewSource(506))
	taken, refusals := 0, 0
	for range 60000 {
		m := mixedMarks(r)
		var pieces []api.Piece
		for range r.Intn(6) {
			p := rightPiece(r, m)
			if r.Intn(6) == 0 {
				p = randomPiece(r)
			}
			pieces = append(pieces, p)
		}
		want, at := modelJoin(m, pieces)
		got, err := Join(m, pieces)
		what := fmt.Sprintf("Join(%s) under %q", show(pieces), fiveOf(m))
		if at >= 0 {
			refusals++
			refused(t, "P506: "+what, err, api.ErrPiece, at)
			if got != "" {
				t.Fatalf("P506: %s: %q beside an error", what, got)
			}
			continue
		}
		taken++
		if err != nil || got != want {
			t.Fatalf("P506: %s: %q, %v, want %q", what, got, err, want)
		}
		if back, err := Split(m, got); err != nil || !slices.Equal(back, pieces) {
			t.Fatalf("P509: Split of %s: %s, %v", what, show(back), err)
		}
	}
	if taken < 1000 || refusals < 1000 {
		t.Errorf("the runs were %d that are taken and %d that are refused: too few", taken, refusals)
	}
}

// TestAllShortWires goes through every text of up to four bytes of an alphabet, and every body of up to three.
func TestAllShortWires(t *testing.T) {
	m := marksOf("|^~\\&")
	holds := func(wire string) {
		want, at := modelSplit(m, wire)
		got, err := Split(m, wire)
		if at >= 0 {
			refused(t, fmt.Sprintf("P505: Split(%q)", wire), err, api.ErrEscape, at)
		} else if err != nil || !slices.Equal(got, want) {
			t.Errorf("P505: Split(%q): %s, %v, want %s", wire, show(got), err, show(want))
		}
	}
	eachText("\\F.X0aZ|\r\x7f\xc3\xa4", 4, holds)
	eachText("FSTREHNXZCMa0.brcefinspkt+-1 \xe4", 3, func(body string) { holds("\\" + body + "\\") })
}

func eachText(alphabet string, most int, do func(text string)) {
	do("")
	if most == 0 {
		return
	}
	for i := range len(alphabet) {
		eachTextFrom(alphabet[i:i+1], alphabet, most-1, do)
	}
}

func eachTextFrom(begin, alphabet string, most int, do func(text string)) {
	do(begin)
	if most == 0 {
		return
	}
	for i := range len(alphabet) {
		eachTextFrom(begin+alphabet[i:i+1], alphabet, most-1, do)
	}
}
