package setup

import (
	"errors"
	"strings"
	"testing"

	"courier/api"
)

// P1701: texts, lines and their words.

// TestP1701Size: a text has at most 65536 bytes.
func TestP1701Size(t *testing.T) {
	for _, fill := range []string{"\n", " ", "#", "\t"} {
		room := strings.Repeat(fill, 65536-len(example)-1) + "\n"
		says(t, room+example, mostly(t, room+example))
		refuses(t, room+" "+example, api.ErrLong, 0)
		refuses(t, room+example+"\n", api.ErrLong, 0)
	}
	// Bytes are counted, not runes.
	wide := "#" + strings.Repeat("é", (65536-len(example)-2)/2) + "\n"
	if n := 65536 - len(wide) - len(example); n < 0 || n > 1 {
		t.Fatalf("%d bytes are left", n)
	}
	says(t, wide+example, exampleSetup())
	refuses(t, wide+"  "+example, api.ErrLong, 0)
	// It comes first, whatever stands in the text.
	for _, text := range []string{strings.Repeat("x", 65537), strings.Repeat("\n", 65537), strings.Repeat("\x00", 1<<20)} {
		refuses(t, text, api.ErrLong, 0)
	}
	refuses(t, strings.Repeat("\n", 65536), api.ErrMissing, 65537)
	refuses(t, strings.Repeat(" ", 65536), api.ErrMissing, 2)
	refuses(t, strings.Repeat("#", 65536), api.ErrMissing, 2)
	refuses(t, strings.Repeat("x", 65536), api.ErrLine, 1)
	refuses(t, strings.Repeat("\"", 65536), api.ErrLine, 1)
}

// mostly is the example's setup, if the text has just 65536 bytes.
func mostly(t *testing.T, text string) api.Setup {
	t.Helper()
	if len(text) != 65536 {
		t.Fatalf("the test's text has %d bytes", len(text))
	}
	return exampleSetup()
}

// areWords tells whether something that begins behind "app" makes a line that is words and a comment: behind an app that has stood it is ErrTwice then, whatever the words are, and ErrLine else.
func areWords(t *testing.T, behind string) bool {
	t.Helper()
	_, err := Parse(ahead(5, "app"+behind))
	var f *api.Fault
	if !errors.As(err, &f) || f.At != 5 || f.Code != api.ErrTwice && f.Code != api.ErrLine {
		t.Fatalf("app%q again: %v", behind, err)
	}
	return f.Code == api.ErrTwice
}

func wantWords(t *testing.T, behind string, want bool) {
	t.Helper()
	if got := areWords(t, behind); got != want {
		t.Errorf("app%q: words %v, want %v", behind, got, want)
	}
}

func isBlank(b int) bool { return b == ' ' || b == '\t' }

// TestP1701FirstKind: each byte at each place of a word of the first kind.
func TestP1701FirstKind(t *testing.T) {
	for b := range 256 {
		if b == '\n' {
			continue
		}
		c := string([]byte{byte(b)})
		may := b >= 0x21 && b <= 0x7E && b != '"' || isBlank(b)
		wantWords(t, " "+c, may)
		wantWords(t, " "+c+"yz", may)
		wantWords(t, " x"+c+"z", may)
		wantWords(t, " xy"+c, may)
		wantWords(t, " x "+c, may)
		wantWords(t, " x "+c+" z", may)
	}
	for n, want := range map[int]bool{1: true, 2: true, 63: true, 64: true, 65: false, 66: false, 128: false, 129: false} {
		wantWords(t, " "+strings.Repeat("x", n), want)
		wantWords(t, " "+strings.Repeat("~", n)+"# too long", want)
		wantWords(t, " "+strings.Repeat("!", n)+"\t", want)
		wantWords(t, " y "+strings.Repeat("\\", n)+" z", want)
	}
	wantWords(t, strings.Repeat(" "+strings.Repeat("x", 64), 100), true)
	wantWords(t, strings.Repeat(" "+strings.Repeat("x", 64), 100)+"x", false)
}

// TestP1701SecondKind: each byte at each place of a word of the second kind, and each pair.
func TestP1701SecondKind(t *testing.T) {
	for b := range 256 {
		if b == '\n' {
			continue
		}
		c := string([]byte{byte(b)})
		may := b >= 0x20 && b <= 0x7E && b != '"' && b != '\\'
		wantWords(t, ` "`+c+`"`, may)
		wantWords(t, ` "`+c+`yz"`, may)
		wantWords(t, ` "x`+c+`z"`, may)
		wantWords(t, ` "xy`+c+`"`, may)
		wantWords(t, ` x "`+c+`" z`, may)
		pair := b == '"' || b == '\\'
		wantWords(t, ` "\`+c+`"`, pair)
		wantWords(t, ` "\`+c+`yz"`, pair)
		wantWords(t, ` "x\`+c+`z"`, pair)
		wantWords(t, ` "xy\`+c+`" z`, pair)
	}
	for n, want := range map[int]bool{0: true, 1: true, 2: true, 63: true, 64: true, 65: false, 66: false, 128: false} {
		for _, one := range []string{"x", " ", "#", "~", `\"`, `\\`} {
			wantWords(t, ` "`+strings.Repeat(one, n)+`"`, want)
			wantWords(t, ` y "`+strings.Repeat(one, n)+`"# z`, want)
		}
	}
	half := strings.Repeat("x", 32)
	wantWords(t, ` "`+half+strings.Repeat(`\\`, 32)+`"`, true)
	wantWords(t, ` "`+half+strings.Repeat(`\"`, 33)+`"`, false)
	wantWords(t, ` "`+strings.Repeat(`\\`, 32)+half+`x"`, false)
}

// TestP1701Closing: no closing mark, and what follows it.
func TestP1701Closing(t *testing.T) {
	for _, open := range []string{
		` "`, ` "x`, ` "x\"`, ` "x\\\"`, ` "\`, ` "x\`, ` " # x`, ` "" "`, ` x "`, ` "x" "y`, ` "x"""`, ` """`, ` "\"`,
		` "` + strings.Repeat("x", 64), ` "` + strings.Repeat("x", 65),
	} {
		wantWords(t, open, false)
	}
	for b := range 256 {
		if b == '\n' {
			continue
		}
		c := string([]byte{byte(b)})
		may := isBlank(b) || b == '#'
		for _, w := range []string{`""`, `"x"`, `"x y"`, `"\""`, `"\\"`, `"#"`} {
			wantWords(t, " "+w+c, may)
			wantWords(t, " "+w+c+"z", may)
			wantWords(t, " x "+w+c+" z", may)
		}
	}
	for _, w := range []string{`""`, `"x"`, `"\\"`, `"\""`, `"# x"`, `"x" "y"`, `"x" y`, `x "y"`, `"x"	"y"	#"`} {
		wantWords(t, " "+w, true)
		wantWords(t, " "+w+" ", true)
		wantWords(t, " "+w+" #", true)
	}
	for _, w := range []string{`x"y"`, `x"y`, `"x"y`, `"x""y"`, `x"`, `"x"\`, `\"`, `x\"y`, `\""x"`} {
		wantWords(t, " "+w, false)
	}
	// Where a word of the first kind meets the next one.
	wantWords(t, `"x"`, false)
	wantWords(t, `""`, false)
	wantWords(t, "", true)
	wantWords(t, "#", true)
	wantWords(t, "\t", true)
}

// TestP1701Comment: each byte in a comment, and each as all of a line.
func TestP1701Comment(t *testing.T) {
	for b := range 256 {
		c := string([]byte{byte(b)})
		if b == '\n' {
			continue
		}
		says(t, with(14, "app HIS #"+c), exampleSetup())
		says(t, with(14, "app HIS#x"+c+"y"), exampleSetup())
		says(t, with(14, `app "HIS"#`+c+c), exampleSetup())
		says(t, ahead(14, "#"+c), exampleSetup())
		says(t, ahead(1, " # x"+c+"\"y"), exampleSetup())
		if isBlank(b) || b == '#' {
			says(t, ahead(14, c), exampleSetup())
		} else {
			refuses(t, ahead(14, c), api.ErrLine, 14)
		}
	}
	// What stands in a word is no comment.
	refuses(t, with(14, `app "HIS#"`), api.ErrLine, 14)
	refuses(t, with(14, `app "#HIS"`), api.ErrLine, 14)
	refuses(t, with(14, "app #HIS"), api.ErrLine, 14)
	refuses(t, with(14, "# app HIS"), api.ErrMissing, 22)
	refuses(t, with(14, "app# HIS"), api.ErrLine, 14)
	refuses(t, with(6, `marks |^~#&`), api.ErrLine, 6)
	want := exampleSetup()
	want.Sides[0].Marks.Esc = '#'
	says(t, with(6, `marks "|^~#&"#&`), want)
}

// TestP1701Blanks: blanks more, comments, and lines without words change nothing, and count as lines.
func TestP1701Blanks(t *testing.T) {
	for _, line := range []string{"", " ", "\t", " \t \t", "#", "# x", "\t#\"", " ## side b", "#\r", "#\x00\xFF", "# structures"} {
		for n := 1; n <= 22; n++ {
			says(t, ahead(n, line), exampleSetup())
			says(t, ahead(n, line, line, line), exampleSetup())
		}
		if line != "" {
			refuses(t, line, api.ErrMissing, 2)
		}
		refuses(t, line+"\n", api.ErrMissing, 2)
		refuses(t, line+"\n"+line+"\n", api.ErrMissing, 3)
		refuses(t, line+"\nside b", api.ErrLine, 2)
	}
	for n, line := range exampleLines() {
		for _, blank := range []string{" ", "\t", "  ", " \t"} {
			says(t, with(n+1, blank+line), exampleSetup())
			says(t, with(n+1, line+blank), exampleSetup())
			says(t, with(n+1, strings.Replace(line, " ", blank, 1)), exampleSetup())
			says(t, with(n+1, blank+strings.Replace(line, " ", blank+" ", 1)+blank+"# x"), exampleSetup())
			says(t, with(n+1, line+"#"+blank), exampleSetup())
		}
		for _, none := range []string{"\r", "\v", "\f", "\x00", "\u00A0", "\u2003", "\xA0"} {
			if strings.Contains(line, "#") {
				continue
			}
			refuses(t, with(n+1, none+line), api.ErrLine, n+1)
			refuses(t, with(n+1, line+none), api.ErrLine, n+1)
			refuses(t, with(n+1, line+" "+none), api.ErrLine, n+1)
			if spaced := strings.Replace(line, " ", none, 1); spaced != line {
				refuses(t, with(n+1, spaced), api.ErrLine, n+1)
			}
		}
	}
}

// TestP1701LastLine: the last line's line feed may be missing.
func TestP1701LastLine(t *testing.T) {
	short := strings.TrimSuffix(example, "\n")
	for _, end := range []string{"", "\n", " ", "\t#", "#\n", " # end"} {
		says(t, short+end, exampleSetup())
	}
	for k := 1; k < 22; k++ {
		text := strings.Join(exampleLines()[:k], "\n")
		refuses(t, text, api.ErrMissing, k+1)
		refuses(t, text+"\n", api.ErrMissing, k+1)
		refuses(t, text+"\n\n", api.ErrMissing, k+2)
		refuses(t, text+"\n ", api.ErrMissing, k+2)
		refuses(t, text+"\n#", api.ErrMissing, k+2)
		refuses(t, text+"\n#\n", api.ErrMissing, k+2)
	}
	refuses(t, "\n", api.ErrMissing, 2)
	refuses(t, " ", api.ErrMissing, 2)
}
