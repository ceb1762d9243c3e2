package types

import (
	"slices"
	"strings"

	"courier/api"
	"courier/stamp"
)

const (
	null     = `""` // right for every primitive kind
	maxShort = 199
	maxNM    = 16
	maxSI    = 4
	maxID    = 20
)

// composites are the kinds that have parts: a * stands behind the kind of a part that is required.
var composites = [...]struct{ kind, parts string }{
	{"HD", "IS ST ID"},
	{"EI", "ST* IS ST ID"},
	{"CE", "ST ST ID ST ST ID"},
	{"CWE", "ST ST ID ST ST ID ST ST ST"},
	{"MSG", "ID0076* ID0003 ID"},
	{"PT", "ID0103* ID"},
	{"VID", "ID0104* CE CE"},
	{"ERL", "ST* SI* SI SI SI SI"},
	{"CX", "ST* ST ID HD ID"},
	{"FN", "ST* ST ST ST ST"},
	{"XPN", "FN ST ST ST ST ID"},
	{"PL", "IS IS IS HD IS ID"},
}

// tables are the lists of an ID's values, in rising order.
var tables = [...]struct {
	number       int
	kind, values string
}{
	{3, "ID0003", "A01 A02 A03 A04 A08 A11 A12 A13 O01 O21 P01 Q01 R01"},
	{8, "ID0008", "AA AE AR CA CE CR"},
	{61, "ID0061", "DNS ISO M10 M11 UUID"},
	{76, "ID0076", "ACK ADT BAR ORM ORU QRY"},
	{103, "ID0103", "D P T"},
	{104, "ID0104", "2.1 2.2 2.3 2.3.1 2.4 2.5 2.5.1"},
	{155, "ID0155", "AL ER NE SU"},
	{357, "ID0357", "0 100 101 102 103 200 201 202 203 204 205 206 207"},
	{516, "ID0516", "E F I W"},
}

// primitive is the rule of a kind without parts.
type primitive struct {
	kind   string
	text   func(plain string) bool // whether a plain text is right
	piece  func(p api.Piece) bool  // whether a piece may stand in it
	values []string                // those of its table; of a kind without one: none
}

func primitiveOf(kind string) (primitive, bool) {
	for _, p := range [...]primitive{
		{"ST", isShort, isStill, nil},
		{"TX", isAny, isStill, nil},
		{"FT", isAny, isPiece, nil},
		{"NM", isNumber, isPiece, nil},
		{"SI", isCount, isPiece, nil},
		{"ID", isCode, isPiece, nil},
		{"IS", isCode, isPiece, nil},
		{"DT", isDate, isPiece, nil},
		{"TM", isTime, isPiece, nil},
		{"TS", isStamp, isPiece, nil},
	} {
		if p.kind == kind {
			return p, true
		}
	}
	for _, t := range tables {
		if t.kind == kind {
			return primitive{kind, isCode, isPiece, strings.Fields(t.values)}, true
		}
	}
	return primitive{}, false
}

// judge tells what is wrong with a plain text, or OK.
func (p primitive) judge(plain string) api.Errno {
	switch {
	case !p.text(plain):
		return api.ErrType
	case len(p.values) > 0 && !slices.Contains(p.values, plain):
		return api.ErrValue
	}
	return api.OK
}

func isAny(plain string) bool { return true }

func isShort(plain string) bool { return len(plain) <= maxShort }

func isNumber(plain string) bool {
	whole, behind, point := strings.Cut(unsigned(plain), ".")
	return len(plain) <= maxNM && areDigits(whole) && (!point || areDigits(behind))
}

// unsigned leaves one sign out, if there is one.
func unsigned(plain string) string {
	if plain != "" && (plain[0] == '+' || plain[0] == '-') {
		return plain[1:]
	}
	return plain
}

func isCount(plain string) bool { return len(plain) <= maxSI && areDigits(plain) }

func isCode(plain string) bool { return len(plain) <= maxID && areAll(plain, isCodeByte) }

func isCodeByte(b byte) bool {
	return isDigit(b) || 'A' <= b && b <= 'Z' || 'a' <= b && b <= 'z' || b == '_' || b == '.' || b == '-'
}

func isDigit(b byte) bool { return '0' <= b && b <= '9' }

func areDigits(plain string) bool { return areAll(plain, isDigit) }

// areAll tells whether there is a byte at least, and all are as they must be.
func areAll(plain string, is func(b byte) bool) bool {
	for i := range len(plain) {
		if !is(plain[i]) {
			return false
		}
	}
	return plain != ""
}

func isDate(plain string) bool { return stamp.Date(plain) == nil }

func isTime(plain string) bool { return stamp.Time(plain) == nil }

func isStamp(plain string) bool {
	_, err := stamp.Parse(plain)
	return err == nil
}

func isPiece(p api.Piece) bool { return true }

// isStill tells whether a piece leaves the look of the text as it is.
func isStill(p api.Piece) bool { return p.Kind != api.PieceHigh && p.Kind != api.PieceCommand }

// part is what may stand in one place of a value.
type part struct {
	kind string
	must bool
}

// partsOf tells a kind's parts; a primitive kind is its own one. Of what is no kind there are none.
func partsOf(kind string) []part {
	if _, ok := primitiveOf(kind); ok {
		return []part{{kind: kind}}
	}
	var parts []part
	for _, c := range composites {
		if c.kind != kind {
			continue
		}
		for _, word := range strings.Fields(c.parts) {
			name, must := strings.CutSuffix(word, "*")
			parts = append(parts, part{name, must})
		}
	}
	return parts
}

// flat tells whether a kind has so many parts, all of them primitive.
func flat(kind string, size int) bool {
	parts := partsOf(kind)
	for _, p := range parts {
		if _, ok := primitiveOf(p.kind); !ok {
			return false
		}
	}
	return len(parts) == size
}
