package esc

import (
	"strings"

	"courier/api"
)

// split reads a wire text up to the place where it goes wrong, or to its end.
func (five marks) split(wire string) ([]api.Piece, int) {
	var pieces []api.Piece
	begin, open := 0, false
	for i, r := range wire {
		switch {
		case r == five.esc() && open:
			p, ok := five.escape(wire[begin+1 : i])
			if !ok {
				return nil, begin
			}
			pieces = append(pieces, p)
			begin, open = i+1, false
		case r == five.esc():
			pieces = addText(pieces, wire[begin:i])
			begin, open = i, true
		case !open && !five.plain(r):
			return nil, i
		}
	}
	if open {
		return nil, begin
	}
	return addText(pieces, wire[begin:]), len(wire)
}

func addText(pieces []api.Piece, text string) []api.Piece {
	if text == "" {
		return pieces
	}
	return append(pieces, api.Piece{Kind: textKind, Text: text})
}

// escape reads a body under these marks: . + and - may be among them.
func (five marks) escape(body string) (api.Piece, bool) {
	if strings.ContainsAny(body, string(five)) {
		return api.Piece{}, false
	}
	return read(body)
}

// right tells whether a piece may stand in a wire text by itself.
func (five marks) right(p api.Piece) bool {
	if p.Kind == textKind {
		return p.N == 0 && p.Text != "" && all(p.Text, five.plain)
	}
	if len(p.Text) > maxPairs { // no escape has more, and its body needn't be written to know it
		return false
	}
	back, ok := five.escape(body(p))
	return ok && back == p
}

// write writes pieces that are right, up to as many bytes as may be.
func (five marks) write(pieces []api.Piece) (string, error) {
	var wire strings.Builder
	for _, p := range pieces {
		text := five.wire(p)
		if wire.Len()+len(text) > api.MaxMessage {
			return "", fault(0, api.ErrLong)
		}
		wire.WriteString(text)
	}
	return wire.String(), nil
}

func (five marks) wire(p api.Piece) string {
	if p.Kind == textKind {
		return p.Text
	}
	esc := string(five.esc())
	return esc + body(p) + esc
}

// pieces tells those as which any bytes are written. Bytes that go by pairs are ASCII all, so that places count them.
func (five marks) pieces(text string) []api.Piece {
	var pieces []api.Piece
	begin, last := 0, textKind
	for i, r := range text {
		now := five.kind(r)
		if now != last || now == markKind || now == hexKind && i-begin == maxPairs {
			pieces = five.add(pieces, last, text[begin:i])
			begin, last = i, now
		}
	}
	return five.add(pieces, last, text[begin:])
}

// kind is that of the piece as which a byte is written.
func (five marks) kind(r rune) int {
	switch {
	case five.plain(r):
		return textKind
	case five.has(r):
		return markKind
	default:
		return hexKind
	}
}

func (five marks) add(pieces []api.Piece, kind int, text string) []api.Piece {
	if text == "" {
		return pieces
	}
	if kind == markKind {
		text = five.letter(text[0])
	}
	return append(pieces, api.Piece{Kind: kind, Text: text})
}

// plainText is what a piece stands for.
func (five marks) plainText(p api.Piece) string {
	switch p.Kind {
	case textKind, hexKind:
		return p.Text
	case markKind:
		return five.mark(p.Text)
	case commandKind:
		return layout(p)
	default:
		return ""
	}
}

// layout is what a command stands for.
func layout(p api.Piece) string {
	switch p.Text {
	case "br", "sp":
		return strings.Repeat("\n", 1+p.N)
	case "sk":
		return strings.Repeat(" ", p.N)
	default:
		return ""
	}
}
