package esc

import (
	"strconv"
	"strings"

	"courier/api"
)

// The kinds of pieces, counted on from api's first one.
const (
	textKind = iota + api.PieceText
	markKind
	hexKind
	highKind
	localKind
	commandKind
	setKind
)

const (
	maxPairs  = 64  // of a body with X
	maxLocal  = 32  // bytes behind Z
	maxNumber = 999 // of a command
)

const hexDigits = "0123456789ABCDEF"

// words are the bodies that stand for themselves alone.
var words = [...]struct {
	body  string
	piece api.Piece
}{
	{"F", api.Piece{Kind: markKind, Text: "F"}},
	{"S", api.Piece{Kind: markKind, Text: "S"}},
	{"T", api.Piece{Kind: markKind, Text: "T"}},
	{"R", api.Piece{Kind: markKind, Text: "R"}},
	{"E", api.Piece{Kind: markKind, Text: "E"}},
	{"H", api.Piece{Kind: highKind, N: 1}},
	{"N", api.Piece{Kind: highKind}},
	{".br", api.Piece{Kind: commandKind, Text: "br"}},
	{".ce", api.Piece{Kind: commandKind, Text: "ce"}},
	{".fi", api.Piece{Kind: commandKind, Text: "fi"}},
	{".nf", api.Piece{Kind: commandKind, Text: "nf"}},
	{".sp", api.Piece{Kind: commandKind, Text: "sp"}},
}

// read tells the piece that a body is, if it is one of the table.
func read(body string) (api.Piece, bool) {
	if body == "" {
		return api.Piece{}, false
	}
	rest := body[1:]
	switch body[0] {
	case 'X':
		text := unpair(rest)
		return api.Piece{Kind: hexKind, Text: text}, text != ""
	case 'Z':
		return api.Piece{Kind: localKind, Text: rest}, len(rest) <= maxLocal && all(rest, isWord)
	case 'M':
		if len(rest) == 6 && all(rest, isHex) {
			return api.Piece{Kind: setKind, Text: body}, true
		}
		fallthrough
	case 'C':
		return api.Piece{Kind: setKind, Text: body}, len(rest) == 4 && all(rest, isHex)
	case '.':
		if p, ok := counted(rest); ok {
			return p, true
		}
		fallthrough
	default:
		return word(body)
	}
}

func word(body string) (api.Piece, bool) {
	for _, w := range words {
		if w.body == body {
			return w.piece, true
		}
	}
	return api.Piece{}, false
}

// counted reads a command that has a number.
func counted(command string) (api.Piece, bool) {
	if len(command) < 3 {
		return api.Piece{}, false
	}
	p := api.Piece{Kind: commandKind, Text: command[:2]}
	switch p.Text {
	case "sp", "sk":
		p.N = number(command[2:])
	case "in", "ti":
		p.N = shift(command[2:])
	}
	return p, p.N != 0
}

// shift reads a number behind its sign; 0 as number tells it.
func shift(text string) int {
	switch text[0] {
	case '+':
		return number(text[1:])
	case '-':
		return -number(text[1:])
	default:
		return 0
	}
}

// number is 0 for a text that is no number.
func number(text string) int {
	n := 0
	for _, r := range text {
		if r < '0' || r > '9' {
			return 0
		}
		n = 10*n + int(r-'0')
		if n == 0 || n > maxNumber {
			return 0
		}
	}
	return n
}

// body is the one that read would have to tell the piece of: a piece that is none has one too, of which read tells another, or none.
func body(p api.Piece) string {
	for _, w := range words {
		if w.piece == p {
			return w.body
		}
	}
	switch p.Kind {
	case hexKind:
		return "X" + pairs(p.Text)
	case localKind:
		return "Z" + p.Text
	case commandKind:
		return "." + p.Text + signed(p)
	default:
		return p.Text
	}
}

func signed(p api.Piece) string {
	n := strconv.Itoa(p.N)
	if p.N > 0 && (p.Text == "in" || p.Text == "ti") {
		return "+" + n
	}
	return n
}

// pairs writes bytes by two digits each; unpair reads them, nothing if they are no such pairs.
func pairs(text string) string {
	var out strings.Builder
	for _, b := range []byte(text) {
		out.WriteByte(hexDigits[b>>4])
		out.WriteByte(hexDigits[b&15])
	}
	return out.String()
}

func unpair(text string) string {
	if len(text)%2 != 0 || len(text) > 2*maxPairs || !all(text, isHex) {
		return ""
	}
	out := make([]byte, len(text)/2)
	for i, r := range text {
		out[i/2] = out[i/2]<<4 | byte(strings.IndexRune(hexDigits, r))
	}
	return string(out)
}

func isHex(r rune) bool { return strings.ContainsRune(hexDigits, r) }

func all(text string, is func(r rune) bool) bool {
	for _, r := range text {
		if !is(r) {
			return false
		}
	}
	return true
}
