package world

import "strings"

// escapes are the bytes that are written in two.
var escapes = [...]struct {
	written string
	stands  byte
}{{`\"`, '"'}, {`\\`, '\\'}, {`\r`, '\r'}}

const digits = "0123456789ABCDEF"

// hexLen is how long a byte is that is written as \xHH.
const hexLen = 4

// quoted writes bytes between quotation marks.
func quoted(p []byte) string {
	var text strings.Builder
	text.WriteByte('"')
bytes:
	for _, b := range p {
		for _, e := range escapes {
			if b == e.stands {
				text.WriteString(e.written)
				continue bytes
			}
		}
		if isPlain(b) {
			text.WriteByte(b)
		} else {
			text.WriteString(`\x` + digits[b>>4:b>>4+1] + digits[b&15:b&15+1])
		}
	}
	text.WriteByte('"')
	return text.String()
}

// unquoted reads the one form of bytes between quotation marks.
func unquoted(text string) ([]byte, bool) {
	if len(text) < 2 || text[0] != '"' || text[len(text)-1] != '"' {
		return nil, false
	}
	rest := text[1 : len(text)-1]
	p := make([]byte, 0, len(rest))
bytes:
	for rest != "" {
		for _, e := range escapes {
			if strings.HasPrefix(rest, e.written) {
				p = append(p, e.stands)
				rest = rest[len(e.written):]
				continue bytes
			}
		}
		b, n := oneByte(rest)
		if n == 0 {
			return nil, false
		}
		p = append(p, b)
		rest = rest[n:]
	}
	return p, true
}

// oneByte reads a byte that is in no way an escape of two, and tells how long it is written; 0: there is none.
func oneByte(text string) (byte, int) {
	if b := text[0]; b != '"' && b != '\\' && isPlain(b) {
		return b, 1
	}
	if len(text) < hexLen || text[:2] != `\x` {
		return 0, 0
	}
	high, low := strings.IndexByte(digits, text[2]), strings.IndexByte(digits, text[3])
	if high < 0 || low < 0 {
		return 0, 0
	}
	b := byte(high<<4 | low)
	if isPlain(b) || b == '\r' {
		return 0, 0
	}
	return b, hexLen
}

// isPlain: it stands as itself, or behind a \ at least.
func isPlain(b byte) bool { return b >= ' ' && b <= '~' }
