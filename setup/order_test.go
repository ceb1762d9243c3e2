package setup

import (
	"math/rand/v2"
	"slices"
	"strings"
	"testing"

	"courier/api"
)

// P1701: which row may stand where, once and not missing, and which reason comes first.

const (
	sideA      = 3 // their lines in the example
	sideB      = 13
	structures = 22
)

// TestP1701EitherOrder: start and version in either order, a side's lines in any.
func TestP1701EitherOrder(t *testing.T) {
	says(t, with(1, exampleLines()[1], exampleLines()[0]), exampleSetup())
	rnd := rand.New(rand.NewPCG(17, 1))
	for range 500 {
		lines := exampleLines()
		for _, part := range [][]string{lines[:sideA-1], lines[sideA : sideB-1], lines[sideB : structures-1]} {
			rnd.Shuffle(len(part), func(i, j int) { part[i], part[j] = part[j], part[i] })
		}
		says(t, joined(lines), exampleSetup())
	}
	for i := sideA + 1; i < sideB; i++ {
		for j := sideA + 1; j < sideB; j++ {
			lines := exampleLines()
			lines[i-1], lines[j-1] = lines[j-1], lines[i-1]
			says(t, joined(lines), exampleSetup())
		}
	}
}

// TestP1701Twice: each row that says one thing, once more at each place.
func TestP1701Twice(t *testing.T) {
	lines := exampleLines()
	for _, p := range places {
		first := strings.Fields(lines[p.line-1])[0]
		begin, end := map[int]int{-1: 1, 0: sideA + 1, 1: sideB + 1}[p.side], map[int]int{-1: sideA, 0: sideB, 1: structures}[p.side]
		for n := 1; n <= structures; n++ {
			text := ahead(n, lines[p.line-1])
			ofSide := p.side >= 0
			switch {
			case begin <= n && n <= end && n <= p.line: // the one that stands in the example is the second
				refuses(t, text, api.ErrTwice, p.line+1)
			case begin <= n && n <= end:
				refuses(t, text, api.ErrTwice, n)
			case ofSide && n <= sideA, !ofSide: // not allowed, said already or not
				refuses(t, text, api.ErrLine, n)
			case first == "marks": // the other side has none
				says(t, text, exampleSetup())
			default: // in the other side, which has its own
				at := n
				for _, q := range linesOf(first) {
					if q != p.line && n <= q {
						at = q + 1
					}
				}
				refuses(t, text, api.ErrTwice, at)
			}
		}
	}
}

// TestP1701TwiceFirst: that it has stood is looked at ahead of the words behind the first.
func TestP1701TwiceFirst(t *testing.T) {
	for _, p := range places {
		for _, behind := range []string{"", " ", " x", " x y", ` ""`, ` "x" "y"`, " # x", "#", " 1", " 99999", " " + strings.Repeat("x", 64), ` "\"\\"`} {
			refuses(t, ahead(p.line+1, p.name+behind), api.ErrTwice, p.line+1)
		}
		// But a line that is not words is none of any row, and a first word of the second kind is no row's.
		for _, behind := range []string{` "`, ` "x`, ` "x"y`, ` x"y"`, `"x"`, " " + strings.Repeat("x", 65), " é", " x\r", ` "\x"`} {
			refuses(t, ahead(p.line+1, p.name+behind), api.ErrLine, p.line+1)
		}
		refuses(t, ahead(p.line+1, `"`+p.name+`" x`), api.ErrLine, p.line+1)
	}
	// What is wrong with the first one is told there.
	refuses(t, ahead(10, "every 9"), api.ErrTwice, 10)
	refuses(t, with(9, "every 0", "every 9"), api.ErrLine, 9)
}

// TestP1701Sides: side a and side b at each place.
func TestP1701Sides(t *testing.T) {
	for n := 1; n <= structures; n++ {
		for _, word := range []string{"a", `"a"`} {
			switch text := ahead(n, "side "+word); {
			case n < sideA: // start, version or both are missing
				refuses(t, text, api.ErrMissing, n)
			case n == sideA:
				refuses(t, text, api.ErrTwice, n+1)
			default:
				refuses(t, text, api.ErrTwice, n)
			}
		}
		for _, word := range []string{"b", `"b"`} {
			switch text := ahead(n, "side "+word); {
			case n <= sideA:
				refuses(t, text, api.ErrLine, n)
			case n < sideB: // one of the lines that are still to come is missing
				refuses(t, text, api.ErrMissing, n)
			case n == sideB:
				refuses(t, text, api.ErrTwice, n+1)
			default:
				refuses(t, text, api.ErrTwice, n)
			}
		}
		for _, line := range []string{"side", "side c", `side ""`, "side a b", "side a a", "side b b", `side b ""`, `"side" a`, "side ab", "Side a"} {
			refuses(t, ahead(n, line), api.ErrLine, n)
		}
	}
	refuses(t, without(sideA), api.ErrLine, sideA)
	refuses(t, without(sideB), api.ErrTwice, sideB)
	refuses(t, with(sideA, "side b"), api.ErrLine, sideA)
	refuses(t, with(sideB, "side a"), api.ErrTwice, sideB)
}

// TestP1701Structures: structures at each place.
func TestP1701Structures(t *testing.T) {
	for n := 1; n < structures; n++ {
		code := api.ErrMissing
		if n <= sideB {
			code = api.ErrLine
		}
		refuses(t, ahead(n, "structures"), code, n)
		refuses(t, ahead(n, "structures # x"), code, n)
		refuses(t, ahead(n, "structures x"), api.ErrLine, n)
		refuses(t, ahead(n, `structures ""`), api.ErrLine, n)
		refuses(t, ahead(n, `"structures"`), api.ErrLine, n)
	}
	refuses(t, with(structures, `"structures"`), api.ErrLine, structures)
	refuses(t, with(structures, "structures x"), api.ErrLine, structures)
	refuses(t, without(structures), api.ErrMissing, structures)
	// At once behind a side's beginning.
	refuses(t, joined(append(exampleLines()[:sideB], "structures")), api.ErrMissing, sideB+1)
	refuses(t, joined(append(exampleLines()[:sideA], "structures")), api.ErrLine, sideA+1)
}

// TestP1701Missing: each row that must stand is missed at the next side, or at structures.
func TestP1701Missing(t *testing.T) {
	for _, p := range places {
		if p.name == "marks" {
			says(t, without(p.line), exampleSetup())
			continue
		}
		next := map[int]int{-1: sideA, 0: sideB, 1: structures}[p.side]
		refuses(t, without(p.line), api.ErrMissing, next-1)
		refuses(t, with(p.line, "# "+p.name), api.ErrMissing, next)
		// All that follow missing too: it is told at the same line.
		kept := exampleLines()[:p.line-1]
		refuses(t, joined(append(kept, exampleLines()[next-1])), api.ErrMissing, p.line)
	}
	refuses(t, "start 20260105000000\nside a\n", api.ErrMissing, 2)
	refuses(t, "version 2.5.1\nside a\n", api.ErrMissing, 2)
	refuses(t, "start 20260105000000\nversion 2.5.1\nside a\nside b\n", api.ErrMissing, 4)
	refuses(t, "start 20260105000000\nversion 2.5.1\nside a\nmarks \"|^~\\\\&\"\nside b\n", api.ErrMissing, 5)
	refuses(t, "start 20260105000000\nversion 2.5.1\nside a\nside a\n", api.ErrTwice, 4)
	refuses(t, "start 20260105000000\nversion 2.5.1\nside a\nstructures\n", api.ErrLine, 4)
}

// TestP1701FirstLine: of several wrong lines the first is told.
func TestP1701FirstLine(t *testing.T) {
	wrong := map[string]api.Errno{"x": api.ErrLine, "side a": api.ErrTwice, "side": api.ErrLine, "start": api.ErrLine, `"`: api.ErrLine}
	for a, code := range wrong {
		for b := range wrong {
			for n := sideA + 1; n < structures; n++ {
				refuses(t, ahead(n, a, b), code, n)
				refuses(t, joined(slices.Insert(exampleLines()[:n-1], n-1, a, b)), code, n)
			}
		}
	}
	// Ahead of what is missing at the end, and of the profile.
	refuses(t, "x", api.ErrLine, 1)
	refuses(t, "\n\nside b", api.ErrLine, 3)
	refuses(t, ahead(5, "x")+"table", api.ErrLine, 5)
	refuses(t, ahead(structures, "keep 0")+"table", api.ErrTwice, structures)
}

// TestP1701Ends: the example, cut at each byte.
func TestP1701Ends(t *testing.T) {
	text := example + someProfiles[3]
	seen := map[api.Errno]int{}
	for n := range len(text) + 1 {
		seen[agrees(t, text[:n])]++
		agrees(t, text[:n]+"\n")
		agrees(t, text[:n]+"\"")
		agrees(t, text[n:])
	}
	for _, code := range []api.Errno{api.OK, api.ErrLine, api.ErrMissing, api.ErrWord} {
		if seen[code] == 0 {
			t.Errorf("number %d was not seen", code)
		}
	}
}

// TestP1701Moves: each two lines taken, moved, doubled, put in each other's place.
func TestP1701Moves(t *testing.T) {
	all := exampleLines()
	for i := range all {
		for j := range all {
			moved := slices.Insert(slices.Delete(slices.Clone(all), i, i+1), min(j, len(all)-1), all[i])
			agrees(t, joined(moved))
			agrees(t, joined(slices.Insert(slices.Clone(all), j, all[i])))
			swapped := slices.Clone(all)
			swapped[i], swapped[j] = all[j], all[i]
			agrees(t, joined(swapped))
			two := slices.Clone(all)
			two[i], two[j] = "", ""
			agrees(t, joined(two))
			two[i], two[j] = all[j], all[j]
			agrees(t, joined(two))
		}
	}
}

// TestP1701Bytes: the example with each byte changed, taken out or put in, at each place.
func TestP1701Bytes(t *testing.T) {
	for n := range len(example) {
		agrees(t, example[:n]+example[n+1:])
		for _, c := range "\x00\x01\t\n\r !\"#$&-.0159:AZ\\^_abz~\x7F" {
			agrees(t, example[:n]+string(c)+example[n+1:])
			agrees(t, example[:n]+string(c)+example[n:])
		}
		for _, c := range []string{"\x80", "\xC3", "\xFF", "é", "\uFFFD", "\u2028"} {
			agrees(t, example[:n]+c+example[n+1:])
			agrees(t, example[:n]+c+example[n:])
		}
	}
}

var someWords = []string{
	"start", "version", "side", "app", "facility", "marks", "process", "sequence", "every", "tries", "keep", "compact", "structures",
	"a", "b", `"a"`, `"b"`, "on", "off", `"on"`, "P", "D", "T", "0", "1", "16", "17", "64", "65", "256", "257", "10000", "10001", "01", `"1"`,
	`""`, `"`, "#", `"#"`, `|^~\&`, `"|^~\\&"`, `"\"#\\'!"`, "2.5.1", "2.5.2", "20260105000000", "20260230000000", "X", `"x y"`, "é",
	"a_b.c-d", "abcdefghijklmnopqrst", "abcdefghijklmnopqrstu", `"\"\""`, `\`,
}

// randomText is a setup's text, in lines of any order and with faults.
func randomText(rnd *rand.Rand) string {
	s := randomSetup(rnd)
	if rnd.IntN(8) == 0 {
		s.Profile = pick(rnd, []string{"table", "x", "message A B = MSH MSH end", "table 0001 = A A ;", "\x00"})
	}
	text, err := Print(s)
	if err != nil {
		text = example + s.Profile
	}
	lines := strings.Split(text, "\n")
	for range rnd.IntN(4) {
		i, j := rnd.IntN(len(lines)), rnd.IntN(min(len(lines), structures+2))
		words := strings.Split(lines[i], " ")
		switch rnd.IntN(9) {
		case 0:
			lines[i], lines[j] = lines[j], lines[i]
		case 1:
			lines = slices.Insert(lines, j, lines[i])
		case 2:
			lines = slices.Delete(lines, i, i+1)
			lines = append(lines, "")
		case 3:
			words[rnd.IntN(len(words))] = pick(rnd, someWords)
			lines[i] = strings.Join(words, " ")
		case 4:
			lines[i] += pick(rnd, []string{" ", "", "\t"}) + pick(rnd, someWords)
		case 5:
			lines[i] = pick(rnd, []string{" ", "\t", "  \t"}) + strings.ReplaceAll(lines[i], " ", pick(rnd, []string{"  ", "\t"}))
		case 6:
			lines = slices.Insert(lines, j, pick(rnd, someWords)+" "+pick(rnd, someWords))
		case 7:
			lines = slices.Insert(lines, j, pick(rnd, []string{"", "# x", " ", "\t#\xFF"}))
		case 8:
			lines[i] = lines[i][:rnd.IntN(len(lines[i])+1)]
		}
	}
	return strings.Join(lines, "\n")
}

// TestP1701Model: texts with faults of all kinds against the model.
func TestP1701Model(t *testing.T) {
	rnd := rand.New(rand.NewPCG(1701, 0))
	seen := map[api.Errno]int{}
	for range 20000 {
		seen[agrees(t, randomText(rnd))]++
	}
	for _, code := range []api.Errno{api.OK, api.ErrLine, api.ErrTwice, api.ErrMissing, api.ErrWord, api.ErrNoMSHFirst} {
		if seen[code] < 100 {
			t.Errorf("number %d was seen %d times", code, seen[code])
		}
	}
}
