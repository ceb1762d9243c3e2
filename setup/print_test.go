package setup

import (
	"fmt"
	"math/rand/v2"
	"slices"
	"strings"
	"sync"
	"testing"

	"courier/api"
)

// P1703: the one form. P1705: there and back. P1706: any text, any setup.

func printed(t *testing.T, s api.Setup) string {
	t.Helper()
	text, err := Print(s)
	if err != nil {
		t.Fatalf("Print(%+v): %v", s, err)
	}
	return text
}

const oneForm = `start 20260105000000
version 2.5.1
side a
app LAB
facility ""
marks "|^~\\&"
process P
sequence on
every 10
tries 3
keep 16
compact 64
side b
app HIS
facility NORTH
marks "|^~\\&"
process P
sequence off
every 5
tries 0
keep 1
compact 8
structures
`

func TestP1703OneForm(t *testing.T) {
	s := exampleSetup()
	if text := printed(t, s); text != oneForm {
		t.Errorf("%s", text)
	}
	// The profile's text stands as it is, without a line feed more.
	for _, s.Profile = range append([]string{strings.Repeat("#", api.MaxProfile)}, someProfiles...) {
		if text := printed(t, s); text != oneForm+s.Profile {
			t.Errorf("%.2000s", text)
		}
	}
}

// modelPrint writes the one form by a pattern.
func modelPrint(s api.Setup) string {
	facility := func(text string) string {
		if text == "" {
			return `""`
		}
		return text
	}
	side := func(name string, x api.Side) string {
		var five string
		for _, c := range []byte{x.Marks.Field, x.Marks.Comp, x.Marks.Rep, x.Marks.Esc, x.Marks.Sub} {
			if c == '"' || c == '\\' {
				five += `\`
			}
			five += string(rune(c))
		}
		sequence := map[bool]string{true: "on", false: "off"}[x.Sequence]
		return fmt.Sprintf("side %s\napp %s\nfacility %s\nmarks \"%s\"\nprocess %s\nsequence %s\nevery %d\ntries %d\nkeep %d\ncompact %d\n",
			name, x.App, facility(x.Facility), five, x.Process, sequence, x.Every, x.Tries, x.Keep, x.Compact)
	}
	return "start " + s.Start + "\nversion " + s.Version + "\n" + side("a", s.Sides[0]) + side("b", s.Sides[1]) + "structures\n" + s.Profile
}

// TestP1703Marks: of marks always in quotation marks, with pairs for the two that need them.
func TestP1703Marks(t *testing.T) {
	for five, want := range map[string]string{
		`|^~\&`: `"|^~\\&"`, `#$%!?`: `"#$%!?"`, `"#\'!`: `"\"#\\'!"`, `\"|^~`: `"\\\"|^~"`, `|^~"\`: `"|^~\"\\"`, "!$%&'": `"!$%&'"`,
	} {
		s := exampleSetup()
		s.Sides[1].Marks = marksOf(five)
		lines := strings.Split(printed(t, s), "\n")
		if lines[15] != "marks "+want {
			t.Errorf("marks %s: %s", five, lines[15])
		}
	}
	for i := range 5 {
		for _, c := range allMarks {
			five := []byte("|^~\\&")
			five[i] = byte(c)
			if !isModelMarks(string(five)) {
				continue
			}
			s := exampleSetup()
			s.Sides[0].Marks = marksOf(string(five))
			if text := printed(t, s); text != modelPrint(s) {
				t.Errorf("%s", text)
			}
			says(t, printed(t, s), s)
		}
	}
}

// TestP1703Longest: the longest setup that Check takes is printed; one with a profile that is too long for layer 9 is Check's to refuse, though its text would be too long too.
func TestP1703Longest(t *testing.T) {
	long := api.Side{
		App: strings.Repeat("A", 20), Facility: strings.Repeat("F", 20), Marks: marksOf(`\"#|^`), Process: "T",
		Every: 10000, Tries: 16, Keep: 64, Compact: 256,
	}
	s := api.Setup{Start: "99991231235959", Version: "2.5.1", Sides: [2]api.Side{long, long}, Profile: strings.Repeat("\n", api.MaxProfile)}
	text := printed(t, s)
	if text != modelPrint(s) || len(text) > 65536 {
		t.Errorf("%d bytes", len(text))
	}
	says(t, text, s)
	for _, n := range []int{api.MaxProfile + 1, 65536, 65537, 1 << 20} {
		s.Profile = strings.Repeat("\n", n)
		text, err := Print(s)
		refused(t, "Print", err, api.ErrSetup, 19)
		if text != "" {
			t.Errorf("%d bytes beside a refusal", len(text))
		}
	}
}

// TestP1705Setups: Parse(Print(s)) = s, and Print's text is its own one form.
func TestP1705Setups(t *testing.T) {
	rnd := rand.New(rand.NewPCG(1705, 0))
	for range 4000 {
		s := randomSetup(rnd)
		text := printed(t, s)
		if text != modelPrint(s) {
			t.Fatalf("%s\nwant\n%s", text, modelPrint(s))
		}
		says(t, text, s)
		got, err := Parse(text)
		if again := printed(t, got); err != nil || again != text {
			t.Fatalf("%s\nbehind\n%s", again, text)
		}
	}
}

// loosened is a text that says the same: its sides' lines in another order, with blanks, comments, lines without words, words of the other kind.
func loosened(rnd *rand.Rand, s api.Setup) string {
	ahead, _, _ := strings.Cut(modelPrint(s), "structures\n")
	lines := strings.Split(strings.TrimSuffix(ahead, "\n"), "\n")
	for _, part := range [][]string{lines[:2], lines[3:12], lines[13:22]} {
		rnd.Shuffle(len(part), func(i, j int) { part[i], part[j] = part[j], part[i] })
	}
	blank := func(least int) string {
		b := make([]byte, least+rnd.IntN(3))
		for i := range b {
			b[i] = " \t"[rnd.IntN(2)]
		}
		return string(b)
	}
	comment := func() string {
		return pick(rnd, []string{"", "", "#", "# x", "#\"", "#\xFF\r\x00 side b", "##"})
	}
	var text strings.Builder
	for _, line := range append(lines, "structures") {
		for rnd.IntN(4) == 0 {
			text.WriteString(blank(0) + comment() + "\n")
		}
		words := strings.Split(line, " ")
		isNumber := slices.Contains([]string{"every", "tries", "keep", "compact"}, words[0])
		if len(words) == 2 && !isNumber && words[1][0] != '"' && rnd.IntN(3) == 0 {
			words[1] = `"` + words[1] + `"`
		}
		text.WriteString(blank(0) + strings.Join(words, blank(1)) + blank(0) + comment() + "\n")
	}
	return text.String() + s.Profile
}

// TestP1705Texts: a text's setup is read again from its one form; blanks more and comments change nothing.
func TestP1705Texts(t *testing.T) {
	rnd := rand.New(rand.NewPCG(1705, 1))
	for range 4000 {
		s := randomSetup(rnd)
		text := loosened(rnd, s)
		agrees(t, text)
		says(t, text, s)
		got, _ := Parse(text)
		if printed(t, got) != modelPrint(s) {
			t.Fatalf("%q is printed as %q", text, printed(t, got))
		}
	}
	for range 4000 {
		text := randomText(rnd)
		s, err := Parse(text)
		if err != nil {
			continue
		}
		if err := Check(s); err != nil {
			t.Fatalf("%q: %v", text, err)
		}
		says(t, printed(t, s), s)
	}
}

// TestP1706Any: texts of any bytes, against the model.
func TestP1706Any(t *testing.T) {
	for _, text := range []string{"\x00", "\xFF", "\"", "#", "\\", "\n\"\n", "side", "structures", "\xEF\xBB\xBF" + example, strings.ReplaceAll(example, "\n", "\r\n"), strings.ReplaceAll(example, "\n", "\r")} {
		agrees(t, text)
	}
	rnd := rand.New(rand.NewPCG(1706, 0))
	for range 10000 {
		b := make([]byte, rnd.IntN(80))
		for i := range b {
			b[i] = byte(rnd.UintN(256))
			if rnd.IntN(2) == 0 {
				b[i] = " \t\n\"\\#ab1"[rnd.IntN(9)]
			}
		}
		agrees(t, string(b))
		var words []string
		for range rnd.IntN(30) {
			words = append(words, pick(rnd, someWords), pick(rnd, []string{" ", " ", "\n", "\n", "\t", ""}))
		}
		agrees(t, strings.Join(words, ""))
		n := rnd.IntN(len(example))
		agrees(t, example[:n]+string(b))
		agrees(t, example[:n]+string(b)+example[n:])
	}
}

// TestP1706Setups: setups of any values.
func TestP1706Setups(t *testing.T) {
	rnd := rand.New(rand.NewPCG(1706, 1))
	for range 5000 {
		s := randomSetup(rnd)
		for range rnd.IntN(6) {
			x := pick(rnd, fields)
			side := &s.Sides[rnd.IntN(2)]
			pick(rnd, x.bad(&s, side))()
			pick(rnd, pick(rnd, fields).good(&s, side))()
		}
		if rnd.IntN(4) == 0 {
			s.Profile = pick(rnd, badProfiles)
		}
		text, err := Print(s)
		no := Check(s)
		switch {
		case (err == nil) != (no == nil):
			t.Fatalf("Print says %v, Check %v", err, no)
		case err == nil:
			says(t, text, s)
		case text != "" || *err.(*api.Fault) != *no.(*api.Fault):
			t.Fatalf("Print: %q, %v; Check: %v", text, err, no)
		}
	}
}

// TestP1706Alike: what is asked at the same time, or again, is answered alike.
func TestP1706Alike(t *testing.T) {
	texts := []string{example, without(9), with(4, "app A B"), ahead(5, "app X"), example + "table", ""}
	type answer struct {
		setup api.Setup
		fault string
	}
	ask := func(text string) answer {
		s, err := Parse(text)
		return answer{s, fmt.Sprint(err)}
	}
	var want []answer
	for _, text := range texts {
		want = append(want, ask(text))
	}
	var all sync.WaitGroup
	for worker := range 8 {
		all.Go(func() {
			for i := range 300 {
				n := (i*7 + worker) % len(texts)
				if got := ask(texts[n]); got != want[n] {
					t.Errorf("Parse of text %d: %+v, want %+v", n, got, want[n])
				}
				if text, err := Print(exampleSetup()); err != nil || text != oneForm {
					t.Errorf("Print: %q, %v", text, err)
				}
			}
		})
	}
	all.Wait()
}
