package setup

import (
	"strconv"
	"strings"
	"testing"

	"courier/api"
)

// P1701: each row's words.

// places are the lines of the example that say one thing, by their numbers.
var places = []struct {
	name string
	line int
	side int // whose it is; -1: of the head
}{
	{"start", 1, -1}, {"version", 2, -1},
	{"app", 4, 0}, {"facility", 5, 0}, {"marks", 6, 0}, {"process", 7, 0}, {"sequence", 8, 0},
	{"every", 9, 0}, {"tries", 10, 0}, {"keep", 11, 0}, {"compact", 12, 0},
	{"app", 14, 1}, {"facility", 15, 1}, {"process", 16, 1}, {"sequence", 17, 1},
	{"every", 18, 1}, {"tries", 19, 1}, {"keep", 20, 1}, {"compact", 21, 1},
}

// linesOf are the numbers of a row's lines in the example.
func linesOf(name string) []int {
	var list []int
	for _, p := range places {
		if p.name == name {
			list = append(list, p.line)
		}
	}
	return list
}

// sideOf is the side whose line that is.
func sideOf(s *api.Setup, line int) *api.Side {
	if line < 13 {
		return &s.Sides[0]
	}
	return &s.Sides[1]
}

func quotedWord(text string) string {
	return `"` + strings.ReplaceAll(strings.ReplaceAll(text, `\`, `\\`), `"`, `\"`) + `"`
}

// takes holds that a row takes a text, written in either way where the first kind serves, and that the setup is as set makes it.
func takes(t *testing.T, name, text string, set func(s *api.Setup, side *api.Side)) {
	t.Helper()
	for _, n := range linesOf(name) {
		want := exampleSetup()
		set(&want, sideOf(&want, n))
		says(t, with(n, name+" "+quotedWord(text)), want)
		if text != "" && !strings.ContainsAny(text, `"# `) {
			says(t, with(n, name+" "+text), want)
		}
	}
}

// leaves holds that a row does not take a text.
func leaves(t *testing.T, name string, texts ...string) {
	t.Helper()
	for _, text := range texts {
		for _, n := range linesOf(name) {
			refuses(t, with(n, name+" "+quotedWord(text)), api.ErrLine, n)
			if text != "" {
				refuses(t, with(n, name+" "+text), api.ErrLine, n)
			}
		}
	}
}

// TestP1701Count: each row has just its words.
func TestP1701Count(t *testing.T) {
	lines := exampleLines()
	for _, n := range linesOf("app") { // whose line in the example has a comment
		lines[n-1] = strings.TrimSuffix(lines[n-1], " # the other one")
	}
	for i, line := range lines {
		first, _, _ := strings.Cut(line, " ")
		for _, more := range []string{" x", ` ""`, " 1", " a", " on", "\t# x"} {
			if strings.HasPrefix(more, "\t") {
				says(t, with(i+1, line+more), exampleSetup())
				continue
			}
			refuses(t, with(i+1, line+more), api.ErrLine, i+1)
			refuses(t, with(i+1, line+more+more), api.ErrLine, i+1)
		}
		if first != "structures" {
			for _, few := range []string{first, first + " ", first + " # x", first + "#"} {
				refuses(t, with(i+1, few), api.ErrLine, i+1)
			}
		}
	}
}

// TestP1701FirstWord: it is of the first kind, and one of the table, byte for byte.
func TestP1701FirstWord(t *testing.T) {
	for i, line := range exampleLines() {
		n := i + 1
		first, behind, _ := strings.Cut(line, " ")
		for _, other := range []string{
			`"` + first + `"`, strings.ToUpper(first), strings.Title(first), first + "s", first[1:], first[:len(first)-1],
			"x", `""`, `"`, "-", `\` + first, first + ":", first + "=", strings.Repeat("x", 64), strings.Repeat("x", 65),
		} {
			refuses(t, with(n, strings.TrimSuffix(other+" "+behind, " ")), api.ErrLine, n)
		}
		if behind != "" {
			refuses(t, with(n, behind), api.ErrLine, n)
			refuses(t, with(n, behind+" "+first), api.ErrLine, n)
		}
	}
	for _, word := range []string{"message", "end", "setup", "events", "structure", "sides", "Side", "a", "b", "0", "table", "segment", "test", "name"} {
		for n := 1; n <= 22; n++ {
			refuses(t, ahead(n, word), api.ErrLine, n)
			refuses(t, ahead(n, word+" a"), api.ErrLine, n)
		}
	}
}

func TestP1701Start(t *testing.T) {
	for _, text := range []string{"20260105000000", "00010101000000", "99991231235959", "20240229235959", "20000229000000", "20261130101010"} {
		takes(t, "start", text, func(s *api.Setup, _ *api.Side) { s.Start = text })
	}
	leaves(t, "start",
		"", "2026", "202601", "20260105", "2026010500", "202601050000", "2026010500000", "202601050000000",
		"20260105000000.0", "20260105000000.1234", "20260105000000+0100", "20260105000000-0500", "20260105000000+0000", "2026+0100",
		"00000101000000", "20230229000000", "19000229000000", "20260431000000", "20260105240000", "20260105006000", "20260105000060",
		"20261305000000", "20260005000000", "20260100000000", "x0260105000000", "2026010500000x", "-2026010500000", "now", `\"`, "2026-01-05",
	)
	refuses(t, with(1, `start " 20260105000000"`), api.ErrLine, 1)
	refuses(t, with(1, `start "20260105000000 "`), api.ErrLine, 1)
	refuses(t, with(1, "start 20260105 000000"), api.ErrLine, 1)
}

func TestP1701Version(t *testing.T) {
	for _, text := range []string{"2.1", "2.2", "2.3", "2.3.1", "2.4", "2.5", "2.5.1"} {
		takes(t, "version", text, func(s *api.Setup, _ *api.Side) { s.Version = text })
	}
	leaves(t, "version", "", "2", "2.0", "2.6", "2.5.2", "2.3.2", "2.5.", "2.5.1.", "02.5", "2.50", "P", "25", "2,5", "v2.5", `\"\"`)
	refuses(t, with(2, `version "\"\""`), api.ErrLine, 2) // layer 8's null
	refuses(t, with(2, `version "2.5 "`), api.ErrLine, 2)
	refuses(t, with(2, `version "2.3 2.4"`), api.ErrLine, 2)
}

// TestP1701Names: app and facility take the same texts, but that facility may be empty.
func TestP1701Names(t *testing.T) {
	setters := map[string]func(side *api.Side, text string){
		"app":      func(side *api.Side, text string) { side.App = text },
		"facility": func(side *api.Side, text string) { side.Facility = text },
	}
	const letters = "0123456789ABCDEFGHIJKLMNOPQRSTUVWXYZabcdefghijklmnopqrstuvwxyz_.-"
	for name, set := range setters {
		takesName := func(text string) {
			t.Helper()
			takes(t, name, text, func(_ *api.Setup, side *api.Side) { set(side, text) })
		}
		for c := range 128 {
			if c == '\n' || c == ' ' || c == '\t' || c == '#' || c == '"' {
				continue // below
			}
			b := string(rune(c))
			if strings.Contains(letters, b) {
				takesName(b)
				takesName("a" + b)
				takesName(b + "a")
			} else {
				leaves(t, name, b, "a"+b, b+"a", "a"+b+"a")
			}
		}
		for _, n := range linesOf(name) {
			for _, text := range []string{` `, ` a`, `a `, `a b`, `#`, `a#`, `\"`, `\"\"`, `a\"`, `\\`, "\t", "é", "\xC3", "\x80", "a\u00B7"} {
				refuses(t, with(n, name+` "`+text+`"`), api.ErrLine, n)
			}
		}
		for _, size := range []int{1, 2, 19, 20} {
			takesName(strings.Repeat("x", size))
			takesName(strings.Repeat("-", size))
		}
		for _, size := range []int{21, 22, 63, 64, 65} {
			leaves(t, name, strings.Repeat("x", size))
		}
		for _, text := range []string{letters[:20], letters[20:40], letters[40:60], letters[60:], "side", "app", "structures", "0", "..", "on"} {
			takesName(text)
		}
	}
	leaves(t, "app", "")
	takes(t, "facility", "", func(_ *api.Setup, side *api.Side) { side.Facility = "" })
}

func marksOf(five string) api.Marks {
	return api.Marks{Field: five[0], Comp: five[1], Rep: five[2], Esc: five[3], Sub: five[4]}
}

// TestP1701Marks: five right marks, in the order of the struct; the usual ones where the row is missing.
func TestP1701Marks(t *testing.T) {
	set := func(five string) func(_ *api.Setup, side *api.Side) {
		return func(_ *api.Setup, side *api.Side) { side.Marks = marksOf(five) }
	}
	for _, five := range []string{`|^~\&`, `&\~^|`, `#$%!?`, `"#\'!`, `\"#|^`, `!/:@[`, "`{~_.", `-+*,;`, `<=>()`, `]}/|\`} {
		takes(t, "marks", five, set(five))
	}
	for i := range 5 {
		for _, c := range allMarks {
			five := []byte("|^~\\&")
			five[i] = byte(c)
			if isModelMarks(string(five)) {
				takes(t, "marks", string(five), set(string(five)))
			} else {
				refuses(t, with(6, "marks "+quotedWord(string(five))), api.ErrLine, 6)
			}
		}
		for _, c := range "09AZaz " {
			five := []byte("|^~\\&")
			five[i] = byte(c)
			refuses(t, with(6, "marks "+quotedWord(string(five))), api.ErrLine, 6)
		}
	}
	for _, text := range []string{
		`""`, `"|"`, `"|^~\\"`, `"|^~\\&!"`, `|^~\`, `|^~\&!`, `"||||||"`, `|^~\\&`, `| ^~\&`, `"|^~\\& "`, `"|^~é"`, "|^~\xC3\xA9", `"|^~\&"`, `"|^~\\&`,
		`|^~"&`, `|^~#&`, `"|^~"&"`, `"\"\""`,
	} {
		refuses(t, with(6, "marks "+text), api.ErrLine, 6)
	}
	// Either side's may be missing, and each has its own.
	says(t, without(6), exampleSetup())
	want := exampleSetup()
	want.Sides[1].Marks = marksOf(`#$%!?`)
	says(t, ahead(15, `marks "#$%!?"`), want)
	want.Sides[0].Marks = marksOf(`"\'(&`)
	says(t, strings.Replace(ahead(15, `marks "#$%!?"`), `"|^~\\&"`, `"\"\\'(&"`, 1), want)
	want.Sides[1].Marks = common
	says(t, with(6, `marks "\"\\'(&"`), want)
}

func TestP1701Process(t *testing.T) {
	for _, text := range []string{"P", "D", "T"} {
		takes(t, "process", text, func(_ *api.Setup, side *api.Side) { side.Process = text })
	}
	leaves(t, "process", "", "p", "A", "PD", "PP", "P,", "0", "D.", "on")
	for _, n := range linesOf("process") {
		for _, text := range []string{`"\"\""`, `"P "`, `" P"`, `"D P"`, "P D"} {
			refuses(t, with(n, "process "+text), api.ErrLine, n)
		}
	}
}

func TestP1701Sequence(t *testing.T) {
	for text, on := range map[string]bool{"on": true, "off": false} {
		takes(t, "sequence", text, func(_ *api.Setup, side *api.Side) { side.Sequence = on })
	}
	leaves(t, "sequence", "", "On", "ON", "Off", "of", "o", "onoff", "true", "false", "0", "1", "yes", "no")
}

// TestP1701Side: side takes a and b, of either kind, and no other word.
func TestP1701Side(t *testing.T) {
	for _, n := range []int{3, 13} {
		name := map[int]string{3: "a", 13: "b"}[n]
		for _, right := range []string{`"` + name + `"`, "\t" + name, `"` + name + `"# x`} {
			says(t, with(n, "side "+right), exampleSetup())
		}
		for _, wrong := range []string{"", "c", "A", "B", "ab", "ba", "aa", "bb", `""`, `"ab"`, "0", "1", `" a"`, `"a "`, "a b", "b a", name + " " + name, name + ` ""`, "side", `\` + name} {
			refuses(t, with(n, "side "+wrong), api.ErrLine, n)
			refuses(t, ahead(n+1, "side "+wrong), api.ErrLine, n+1)
		}
	}
}

// TestP1701Numbers: each number at its border and beyond, and words that are none.
func TestP1701Numbers(t *testing.T) {
	bounds := map[string]struct {
		least, most int
		of          func(side *api.Side) *int
	}{
		"every":   {1, 10000, func(side *api.Side) *int { return &side.Every }},
		"tries":   {0, 16, func(side *api.Side) *int { return &side.Tries }},
		"keep":    {1, 64, func(side *api.Side) *int { return &side.Keep }},
		"compact": {1, 256, func(side *api.Side) *int { return &side.Compact }},
	}
	for name, b := range bounds {
		for _, n := range linesOf(name) {
			for v := -1; v <= 10002; v++ {
				if v > 300 && v < 9990 && v%97 > 0 {
					continue
				}
				text := with(n, name+" "+strconv.Itoa(v))
				if v < b.least || v > b.most {
					refuses(t, text, api.ErrLine, n)
					continue
				}
				want := exampleSetup()
				*b.of(sideOf(&want, n)) = v
				says(t, text, want)
				refuses(t, with(n, name+` "`+strconv.Itoa(v)+`"`), api.ErrLine, n)
				refuses(t, with(n, name+" 0"+strconv.Itoa(v)), api.ErrLine, n)
			}
			for _, wrong := range []string{
				"+1", "-1", "-0", "+0", "00", "01", "1.0", "1e0", "0x1", "1_0", "1,", "x", "1x", "x1", `""`, `"1"`, `"1`, "1 1", "one", "on",
				"18446744073709551617", "9223372036854775808", "4294967297", "99999999999999999999999999", strings.Repeat("1", 64), strings.Repeat("0", 64), strings.Repeat("0", 63) + "1",
				"\u0661", "\uFF11", "1\u00A0",
			} {
				refuses(t, with(n, name+" "+wrong), api.ErrLine, n)
			}
		}
	}
}
