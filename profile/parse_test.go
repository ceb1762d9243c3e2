package profile

import (
	"fmt"
	"math/rand"
	"slices"
	"strconv"
	"strings"
	"testing"

	"courier/api"
)

const example = "table 0001 = F M O U ; segment PID = 3 CX R max 4 ; 8 IS O in 0001 ; end message ADT A01 = MSH EVN PID [ PD1 ] { NK1 } end"

// parsed is the profile of a text that is right.
func parsed(t *testing.T, text string) *Profile {
	t.Helper()
	p, err := Parse(text)
	if p == nil || err != nil {
		t.Fatalf("Parse(%.300q): %v", text, err)
	}
	return p
}

// wrong holds a text's refusal; an @ stands ahead of the word at fault.
func wrong(t *testing.T, code api.Errno, marked string) {
	t.Helper()
	text := strings.Replace(marked, "@", "", 1)
	p, err := Parse(text)
	if p != nil || err == nil {
		t.Errorf("Parse(%.300q) is taken, want %v", text, code)
		return
	}
	if got := faultOf(t, err); got != (refusal{code, strings.Index(marked, "@")}) {
		t.Errorf("Parse(%.300q): %v, want %v at %d", text, err, code, strings.Index(marked, "@"))
	}
	holds(t, text)
}

// right holds a text that is taken against the model.
func right(t *testing.T, text string) {
	t.Helper()
	if !holds(t, text) {
		t.Errorf("Parse(%.300q) is refused", text)
	}
}

func TestP901Examples(t *testing.T) {
	right(t, example)
	wrong(t, api.ErrWord, "table 0001 = @;")
	wrong(t, api.ErrEmptyRep, "message A B = @{ [ PID ] } end")
	wrong(t, api.ErrNoTable, "segment PID = 3 CX R in @0001 ; end")
}

func TestP901Nothing(t *testing.T) {
	for _, text := range []string{"", " ", "\n", "\t\r\n ", "#", "# table", "#\n#", "# table 0001 = ;\n"} {
		right(t, text)
	}
}

// TestP901Top: what may stand where a definition begins.
func TestP901Top(t *testing.T) {
	for _, w := range strings.Fields("= ; [ ] { } < > | end tables tabl Table TABLE segments message. ADT 0001 1 MSH ! \" /") {
		wrong(t, api.ErrWord, "@"+w)
		wrong(t, api.ErrWord, "table 0001 = A ; @"+w+" table 0002 = B ;")
		wrong(t, api.ErrWord, "segment PID = end @"+w)
		wrong(t, api.ErrWord, "message A B = MSH end @"+w)
	}
}

func TestP901Tables(t *testing.T) {
	for _, w := range strings.Fields("0000 9999 0001 1000") {
		right(t, "table "+w+" = A ;")
	}
	for _, w := range strings.Fields("000 00000 1 ABCD 000A A000 -001 +001 0x01 00.1 = ; end 0 001O") {
		wrong(t, api.ErrWord, "table @"+w+" = A ;")
		wrong(t, api.ErrWord, "table 0001 = A ; segment PID = 1 ST O in @"+w+" ; end")
	}
	wrong(t, api.ErrWord, "table 0001 @A = A ;")
	wrong(t, api.ErrWord, "table 0001 @; = A ;")
	wrong(t, api.ErrWord, "table 0001 = @= A ;")
	wrong(t, api.ErrWord, "table 0001 = @")
	wrong(t, api.ErrWord, "table 0001 = A @= ;")
	wrong(t, api.ErrWord, "table 0001 = A @end")
	wrong(t, api.ErrWord, "table 0001 = A @table 0002 = B ;")
	wrong(t, api.ErrTwice, "table 0001 = A ; table @0001 = B ;")
	wrong(t, api.ErrTwice, "table 0001 = A ; table 0002 = A ; table @0001")
	wrong(t, api.ErrTwice, "table 0001 = A @A ;")
	wrong(t, api.ErrTwice, "table 0001 = A B C @B")
	right(t, "table 0001 = A a ; table 0002 = a A B ;")
}

func TestP901Codes(t *testing.T) {
	long := strings.Repeat("x", 20)
	for _, w := range []string{"A", "a", "0", "_", ".", "-", "Az9_.-", long, "ends", "End", "tables", "end.", "max", "len", "in", "R", "MSH", "0001", "-1"} {
		right(t, "table 0001 = "+w+" ;")
		right(t, "message "+w+" B = MSH end")
		right(t, "message A "+w+" = MSH end")
		right(t, "message A B "+w+" = MSH end")
	}
	for _, w := range []string{long + "x", "end", "table", "segment", "message", "a+b", "a/b", "a,b", "^", "a:", "@@", "`", "\"\"", "a~", "a'"} {
		wrong(t, api.ErrWord, "table 0001 = @"+w+" ;")
		wrong(t, api.ErrWord, "table 0001 = A @"+w+" ;")
		wrong(t, api.ErrWord, "message @"+w+" B = MSH end")
		wrong(t, api.ErrWord, "message A @"+w+" = MSH end")
		wrong(t, api.ErrWord, "message A B @"+w+" = MSH end")
	}
	// Each byte alone: a code, a word by itself, or no code.
	for b := byte('!'); b <= '~'; b++ {
		if b != '#' {
			holds(t, "table 0001 = "+string(b)+" ;")
			holds(t, "table 0001 = x"+string(b)+"x ;")
		}
	}
}

func TestP901Segments(t *testing.T) {
	for _, w := range strings.Fields("PID NK1 A00 ZAB ZZZ MSH Z00 ABC END FHS") {
		right(t, "segment "+w+" = end")
		right(t, "segment "+w+" = 3 ST O ; end")
	}
	for _, w := range strings.Fields("PI PIDX pid PiD 1AB P-D P_D end = ; [ MSh 000 P!D") {
		wrong(t, api.ErrWord, "segment @"+w+" = end")
	}
	wrong(t, api.ErrWord, "segment PID @end")
	wrong(t, api.ErrWord, "segment PID @3 ST O ; end")
	wrong(t, api.ErrWord, "segment PID = @; end")
	wrong(t, api.ErrWord, "segment PID = 3 ST O ; @; end")
	wrong(t, api.ErrWord, "segment PID = 3 ST O @end")
	wrong(t, api.ErrWord, "segment PID = 3 ST O @4 ST O ; end")
	wrong(t, api.ErrTwice, "segment PID = end segment @PID = end")
	wrong(t, api.ErrTwice, "segment PID = 3 ST O ; end segment NK1 = end segment @PID")
}

func TestP901Places(t *testing.T) {
	for name, bounds := range map[string][2]int{"PID": {1, 64}, "ZAB": {1, 64}, "FHS": {1, 64}, "MSH": {3, 66}} {
		for place := -1; place <= 120; place++ {
			text := fmt.Sprintf("segment %s = @%d ST O ; end", name, place)
			if place < bounds[0] || place > bounds[1] {
				wrong(t, api.ErrWord, text)
			} else {
				right(t, strings.Replace(text, "@", "", 1))
			}
		}
	}
	for _, w := range strings.Fields("0 00 01 03 003 +3 3.0 3a a 1000 18446744073709551619 99999999999999999999 0x3 1_0 ; = R ST 03x") {
		wrong(t, api.ErrWord, "segment PID = @"+w+" ST O ; end")
		wrong(t, api.ErrWord, "segment MSH = @"+w+" ST O ; end")
	}
	for next := 1; next <= 9; next++ {
		text := fmt.Sprintf("segment PID = 2 ST O ; 5 ST O ; @%d ST O ; end", next)
		if next <= 5 {
			wrong(t, api.ErrWord, text)
		} else {
			right(t, strings.Replace(text, "@", "", 1))
		}
	}
	var all strings.Builder
	for place := 1; place <= 64; place++ {
		fmt.Fprintf(&all, "%d ST O ; ", place)
	}
	right(t, "segment PID = "+all.String()+"end")
	wrong(t, api.ErrWord, "segment PID = "+all.String()+"@65 ST O ; end")
}

func TestP901Kinds(t *testing.T) {
	for _, kind := range allKinds {
		right(t, "segment PID = 3 "+kind+" R ; end")
	}
	for _, w := range strings.Fields("XX st ID0001 ID0009 ID003 ID00003 0003 ID76 = ; R O X max end CX2 ID0076* SN") {
		wrong(t, api.ErrWord, "segment PID = 3 @"+w+" R ; end")
	}
	for _, w := range strings.Fields("R O X") {
		right(t, "segment PID = 3 ST "+w+" ; end")
	}
	for _, w := range strings.Fields("r o x C B RE RO = ; 1 max len in end ST") {
		wrong(t, api.ErrWord, "segment PID = 3 ST @"+w+" ; end")
	}
}

func TestP901Counts(t *testing.T) {
	for word, most := range map[string]int{"max": 32, "len": 8192} {
		for _, n := range []int{1, 2, 9, 10, most - 1, most} {
			right(t, fmt.Sprintf("segment PID = 3 ST O %s %d ; end", word, n))
		}
		for _, w := range []string{"0", "01", "00", strconv.Itoa(most + 1), "0" + strconv.Itoa(most), "-1", "+1", "1.", "1x", "x", "4294967297", "18446744073709551617", "100000", ";", "=", "max", "len", "in", "end"} {
			wrong(t, api.ErrWord, "segment PID = 3 ST O "+word+" @"+w+" ; end")
		}
	}
	for n := range 40 {
		holds(t, fmt.Sprintf("segment PID = 3 ST O max %d ; end", n))
		holds(t, fmt.Sprintf("segment PID = 3 ST O len %d ; end", 8192-20+n))
	}
}

// TestP901Order: max, len and in, each once at most, in this order.
func TestP901Order(t *testing.T) {
	words := []string{"max 2", "len 2", "in 0001"}
	const n = 4
	for code := range n * n * n {
		var list []string
		for c := code; c > 0; c /= n {
			if c%n > 0 {
				list = append(list, words[c%n-1])
			}
		}
		rises := slices.IsSortedFunc(list, func(a, b string) int { return slices.Index(words, a) - slices.Index(words, b) })
		text := "table 0001 = A ; segment PID = 3 ST O " + strings.Join(list, " ") + " ; end"
		if taken := holds(t, text); taken != (rises && len(slices.Compact(slices.Clone(list))) == len(list)) {
			t.Errorf("Parse(%q): %v", text, taken)
		}
	}
	wrong(t, api.ErrWord, "segment PID = 3 ST O len 2 @max 2 ; end")
	wrong(t, api.ErrWord, "table 0001 = A ; segment PID = 3 ST O in 0001 @len 2 ; end")
	wrong(t, api.ErrWord, "table 0001 = A ; segment PID = 3 ST O in 0001 @in 0001 ; end")
	wrong(t, api.ErrWord, "segment PID = 3 ST O max 2 @max 2 ; end")
}

func TestP901NoTable(t *testing.T) {
	wrong(t, api.ErrNoTable, "segment PID = 3 ST O in @0001 ; end table 0001 = A ;")
	wrong(t, api.ErrNoTable, "table 0002 = A ; segment PID = 3 ST O max 2 len 3 in @0001")
	wrong(t, api.ErrNoTable, "table 0002 = 0001 ; segment PID = 3 ST O in @0001")
	wrong(t, api.ErrNoTable, "segment PID = 3 ST O in @0003 ; end") // a table of layer 8
	right(t, "table 0001 = A ; segment PID = 3 ST O in 0001 ; 4 ST O in 0001 ; end")
}

func TestP901Messages(t *testing.T) {
	right(t, "message A B = MSH end message A B C = MSH end message A B D = MSH end message B A = MSH end message A C B = MSH end")
	wrong(t, api.ErrTwice, "message A B = MSH end @message A B = MSH end")
	wrong(t, api.ErrTwice, "message A B C = MSH end message A B = MSH end @message A B C = MSH end")
	wrong(t, api.ErrTwice, "message A B = MSH end @message A B =")
	wrong(t, api.ErrTwice, "message A B = MSH end @message A B = end") // told when its = is read, ahead of its group
	wrong(t, api.ErrTwice, "message A B = MSH end @message A B = { }")
	wrong(t, api.ErrWord, "message A B = MSH end message A B @")
	wrong(t, api.ErrWord, "message A B = MSH end message A B @; = MSH end")
	wrong(t, api.ErrWord, "message A B = MSH end message A B @end")
	wrong(t, api.ErrWord, "message @= MSH end")
	wrong(t, api.ErrWord, "message A @= MSH end")
	wrong(t, api.ErrWord, "message A B C @D = MSH end")
	wrong(t, api.ErrWord, "message A B C @; MSH end")
	wrong(t, api.ErrWord, "message A B C @")
}

func TestP901Items(t *testing.T) {
	for _, w := range strings.Fields("PID A00 FHS END TAB") {
		right(t, "message A B = MSH "+w+" end")
		right(t, "message A B = MSH [ { "+w+" } ] end")
	}
	for _, w := range strings.Fields("ZAB Z00 ZZZ PI PIDX pid 1AB = ; table segment message ADT_A01 max ! ] } > |") {
		wrong(t, api.ErrWord, "message A B = MSH @"+w+" end")
		wrong(t, api.ErrWord, "message A B = @"+w+" end")
	}
	for open, closing := range map[string]string{"[": "]", "{": "}", "< PID |": ">", "< PID | NK1 |": ">"} {
		for _, w := range strings.Fields("ZAB ] } > | end ; = pid") {
			if w != closing && !(w == "|" && open[0] == '<') {
				wrong(t, api.ErrWord, "message A B = MSH "+open+" OBX @"+w)
			}
		}
		right(t, "message A B = MSH "+open+" OBX "+closing+" end")
		wrong(t, api.ErrWord, "message A B = MSH "+open+" OBX @")
		wrong(t, api.ErrWord, "message A B = MSH "+open+" OBX "+closing+" @")
		wrong(t, api.ErrWord, "message A B = MSH "+open+" OBX "+closing+" @"+closing+" end")
	}
	wrong(t, api.ErrWord, "message A B = MSH < PID @> end")
	wrong(t, api.ErrWord, "message A B = MSH < @> end")
	wrong(t, api.ErrWord, "message A B = MSH < PID @] end")
	right(t, "message A B = MSH [ ] < | > < | | > < PID | > [ [ ] ] [ < | PID > ] end")
}

// TestP901EmptyRep: what may be empty, in { } at every depth.
func TestP901EmptyRep(t *testing.T) {
	for _, g := range []string{"", "[ ]", "[ PID ]", "< | >", "< PID | >", "< | PID >", "[ PID ] [ NK1 ]", "[ { PID } ]", "< PID | [ NK1 ] >", "< PID | NK1 | >", "< [ PID ] | NK1 >", "< PID | < NK1 | > >", "[ PID ] < PID | NK1 | > [ OBX ]", "< < < | OBX > | PID > | NK1 >"} {
		wrong(t, api.ErrEmptyRep, "message A B = MSH @{ "+g+" } end")
		wrong(t, api.ErrEmptyRep, "message A B = MSH PID [ NK1 @{ "+g+" } ] end")
		wrong(t, api.ErrEmptyRep, "message A B = { @{ "+g+" }")
		wrong(t, api.ErrEmptyRep, "message A B = MSH { PID @{ "+g+" } } { } end")
		wrong(t, api.ErrEmptyRep, "message A B = MSH { { PID } @{ "+g+" } } { } end")
		wrong(t, api.ErrEmptyRep, "message A B = MSH < PID | @{ "+g+" } > end")
		wrong(t, api.ErrWord, "message A B = MSH { "+g+" @")
		wrong(t, api.ErrWord, "message A B = MSH { "+g+" @]")
		for _, more := range []string{"EVN " + g, g + " EVN", g + " { EVN } " + g, "< EVN | { PID } > " + g, "{ " + g + " EVN }"} {
			right(t, "message A B = MSH { "+more+" } end")
		}
	}
	right(t, "message A B = MSH { < PID | NK1 > } { < PID | { OBX } | NK1 EVN > } end")
}

func TestP901NoMSHFirst(t *testing.T) {
	for _, g := range []string{"", "PID", "PID MSH", "[ MSH ]", "{ MSH }", "< MSH | MSH >", "< MSH | PID >", "[ MSH ] PID", "MSH MSH", "MSH PID MSH", "MSH [ MSH ]", "MSH { MSH }", "MSH < PID | MSH >", "MSH [ { < PID | NK1 MSH > } ]", "[ ] MSH", "FHS", "MSA"} {
		wrong(t, api.ErrNoMSHFirst, "@message A B = "+g+" end")
		wrong(t, api.ErrNoMSHFirst, "message A A MSH = MSH end @message A B = "+g+" end MSH")
		wrong(t, api.ErrWord, "message A B = "+g+" @")
		wrong(t, api.ErrWord, "message A B = "+g+" @; end")
	}
	right(t, "message MSH MSH MSH = MSH end message MSH MSH = MSH PID end")
}

// TestP901First: of two faults that of which one reads first.
func TestP901First(t *testing.T) {
	wrong(t, api.ErrWord, "table 0001 = = ; @\x00")                           // a byte that may not stand in a text
	wrong(t, api.ErrWord, "x # comment @\x7f")                                // in a comment too
	wrong(t, api.ErrTwice, "table 0001 = A @A = ;")                           // a code twice ahead of a wrong word
	wrong(t, api.ErrWord, "table 0001 = A @= A ;")                            //
	wrong(t, api.ErrWord, "segment PID = 3 ST O ; @3 XX Q ; end")             // a place ahead of its kind
	wrong(t, api.ErrNoTable, "segment PID = 3 ST O in @0001 = end")           //
	wrong(t, api.ErrEmptyRep, "message A B = PID @{ } end")                   // the { } is read ahead of the message's end
	wrong(t, api.ErrEmptyRep, "message A B = MSH { @{ } ! } end")             // the inner one is closed first
	wrong(t, api.ErrEmptyRep, "message A B = MSH MSH @{ [ MSH ] } end")       //
	wrong(t, api.ErrWord, "message A B = { [ PID ] @> MSH end")               //
	wrong(t, api.ErrNoMSHFirst, "@message A B = PID end table 0001 = ;")      //
	wrong(t, api.ErrWord, "message A B = PID @; end")                         //
	wrong(t, api.ErrTwice, "message A B = MSH end @message A B = PID end")    // its head ahead of its group
	wrong(t, api.ErrTwice, "segment PID = end segment @PID 3 end")            //
	wrong(t, api.ErrTwice, "table 0001 = A ; table @0001 A ;")                //
	wrong(t, api.ErrWord, "table 0001 = A ; table @0001! = A ; table 0001 ;") // not of its form
}

// TestP901Ends: texts that end too early, at every word and within it.
func TestP901Ends(t *testing.T) {
	text := "table 0001 = F M ;\nsegment PID =# its fields\n3 CX R max 4 len 20 in 0001 ; 8 IS O;end message ADT A01 ADT_A01 = MSH EVN [ PD1 ] { NK1 < A00 | [ B00 ] > } end"
	ended := 0
	for n := range len(text) + 1 {
		cut := text[:n]
		_, no := modelParse(cut)
		holds(t, cut)
		if no != nil && *no == (refusal{api.ErrWord, n}) {
			ended++
			wrong(t, api.ErrWord, cut+"@")
			wrong(t, api.ErrWord, cut+" \n@")
			wrong(t, api.ErrWord, cut+"#end ;@")
			wrong(t, api.ErrWord, cut+"#end ;\n @")
		}
	}
	if ended < 50 {
		t.Errorf("%d texts end too early", ended)
	}
}

// TestP901Blanks: words without a blank between them, blanks and comments.
func TestP901Blanks(t *testing.T) {
	right(t, "table 0001=F M;segment PID=3 CX R max 4;8 IS O in 0001;end message ADT A01=MSH EVN[PD1]{NK1}<A00|B00>end")
	right(t, "table\t0001\r=\nF\r\nM ;")
	right(t, "table#\n0001#=#\n=# = \r ;\nF#M\nM#;\n;#")
	right(t, "table 0001 = F ;# table 0002")
	right(t, "table 0001 = F ;#\n#\n\n# table 0002\ntable 0002 = A ;")
	wrong(t, api.ErrWord, "table 0001 = F # ;@")
	wrong(t, api.ErrWord, "table 0001 = F # ;\r;@") // a CR ends no comment
	wrong(t, api.ErrWord, "table 0001 = F # ;\n@")
	wrong(t, api.ErrWord, "@tab#\nle 0001 = F ;")
	wrong(t, api.ErrWord, "@table0001 = F ;")
	wrong(t, api.ErrWord, "table @00 01 = F ;")
	wrong(t, api.ErrWord, "table 0001 =@=F;")
	wrong(t, api.ErrWord, "message A B=MSH @PIDNK1 end")
	wrong(t, api.ErrWord, "message A B=MSH[PID@}end")
	wrong(t, api.ErrWord, "message A B=MSH<PID@>end")
}

// TestP901Bytes: every byte, in a word, between words and in a comment.
func TestP901Bytes(t *testing.T) {
	for b := range 256 {
		for _, form := range []string{"%stable 0001 = A ;", "table 0001 = A%s ;", "table 0001 = A ;%s", "table 0001 = A ; # %s", "table 0001 = A ; # \n%s", "%s"} {
			text := strings.Replace(form, "%s", string([]byte{byte(b)}), 1)
			holds(t, text)
			if at := strings.Index(form, "%s"); b > 0x7e || b < 0x20 && b != 9 && b != 10 && b != 13 {
				wrong(t, api.ErrWord, text[:at]+"@"+text[at:])
			}
		}
	}
	wrong(t, api.ErrWord, "table 0001 = @é ;")
	wrong(t, api.ErrWord, "= ; @\xc3\x28 \xff")
}

func TestP901Long(t *testing.T) {
	for _, fill := range []string{" ", "#", "\n", "# \n"} {
		body := "table 0001 = A ;"
		pad := strings.Repeat(fill, 32768)
		right(t, body+pad[:32768-len(body)])
		wrong(t, api.ErrLong, "@"+body+pad[:32769-len(body)])
	}
	wrong(t, api.ErrLong, "@"+strings.Repeat("\x00", 32769)) // ahead of its bytes
	wrong(t, api.ErrWord, strings.Repeat(" ", 32767)+"@\x00")
	wrong(t, api.ErrWord, strings.Repeat(" ", 32764)+"@tabl")
	wrong(t, api.ErrWord, "@"+strings.Repeat("x", 32768))
	wrong(t, api.ErrWord, "table 0001 = @"+strings.Repeat("x", 32700))
}

// TestP901Many: every limit at its bound and one above it.
func TestP901Many(t *testing.T) {
	var tables, segs, messages, codes strings.Builder
	for i := range 64 {
		fmt.Fprintf(&tables, "table %04d = A ;", 9999-i*100)
		fmt.Fprintf(&messages, "message A B%d = MSH end ", i)
	}
	for i := range 128 {
		fmt.Fprintf(&segs, "segment A%02X = end ", i)
	}
	for i := range 256 {
		fmt.Fprintf(&codes, "%X ", 255-i)
	}
	all := tables.String() + messages.String() + segs.String()
	right(t, all)
	for _, word := range []string{"table", "segment", "message"} {
		for _, more := range []string{"", " ", " =", " 9999 = A ;", " 0001 = A ;", " A00 = end", " PID = end", " A B0 = MSH end", " A B = MSH end"} {
			wrong(t, api.ErrMany, all+"@"+word+more)
		}
	}
	wrong(t, api.ErrWord, all+"@tables")
	right(t, tables.String()+"message A B = MSH end segment PID = end")
	right(t, segs.String()+"table 0001 = A ; message A B = MSH end")
	right(t, messages.String()+"table 0001 = A ; segment PID = end")

	right(t, "table 0001 = "+codes.String()+"; table 0002 = "+codes.String()+";")
	wrong(t, api.ErrMany, "table 0001 = "+codes.String()+"@x ;")
	wrong(t, api.ErrMany, "table 0001 = "+codes.String()+"@x")
	wrong(t, api.ErrTwice, "table 0001 = "+codes.String()+"@7F ;") // named ahead of ErrMany
	wrong(t, api.ErrWord, "table 0001 = "+codes.String()+"@end ;")
	wrong(t, api.ErrWord, "table 0001 = "+codes.String()+"@")
}

func TestP901ManyItems(t *testing.T) {
	for _, unit := range []struct {
		text  string
		items int
	}{{"PID ", 1}, {"[ ] ", 1}, {"< | > ", 1}, {"< | PID | > ", 2}, {"{ PID } ", 2}, {"[ { PID } < NK1 | OBX > ] ", 6}} {
		n := (512 - 1) / unit.items
		rest := strings.Repeat("A00 ", 511-n*unit.items)
		full := "message A B = MSH " + strings.Repeat(unit.text, n) + rest
		right(t, full+"end")
		right(t, full+"end "+strings.Replace(full, "A B", "A C", 1)+"end") // each message has its own
		for _, w := range []string{"PID", "[", "{", "<", "MSH", "PID end", "{ }"} {
			wrong(t, api.ErrMany, full+"@"+w)
		}
		for _, w := range []string{"ZAB", "]", "}", "|", ">", "x", ";", ""} {
			wrong(t, api.ErrWord, full+"@"+w)
		}
	}
	deep := "message A B = MSH [ " + strings.Repeat("PID ", 510)
	right(t, deep+"] end")
	wrong(t, api.ErrMany, deep+"@NK1 ] end")
	wrong(t, api.ErrMany, deep+"] @NK1 end")
}

func TestP901ManyBrackets(t *testing.T) {
	for _, b := range [][2]string{{"[ ", "] "}, {"{ ", "} "}, {"< NK1 | ", "> "}, {"< ", "| NK1 > "}} {
		full := "message A B = MSH " + strings.Repeat(b[0], 16) + "PID "
		right(t, full+strings.Repeat(b[1], 16)+"end")
		right(t, full+strings.Repeat(b[1], 16)+strings.Repeat(b[0], 16)+"OBX "+strings.Repeat(b[1], 16)+"end")
		right(t, full+b[1]+b[0]+"OBX "+strings.Repeat(b[1], 16)+"end")
		for _, w := range []string{"[", "{", "<"} {
			wrong(t, api.ErrMany, full+"@"+w+" EVN ")
			wrong(t, api.ErrMany, full+b[1]+b[0]+"OBX @"+w)
		}
		wrong(t, api.ErrWord, full+"@=")
	}
}

// TestP901Model holds random texts, right and disturbed ones, against the model.
func TestP901Model(t *testing.T) {
	rnd := rand.New(rand.NewSource(901))
	taken, codes := 0, map[api.Errno]int{}
	for range 20000 {
		words := randomWords(rnd)
		if rnd.Intn(3) > 0 {
			words = disturb(rnd, words)
		}
		text := joined(rnd, words)
		if holds(t, text) {
			taken++
		} else {
			_, no := modelParse(text)
			codes[no.code]++
		}
	}
	if taken < 5000 || codes[api.ErrWord] < 5000 || codes[api.ErrTwice] < 500 || codes[api.ErrNoTable] < 100 || codes[api.ErrEmptyRep] < 50 || codes[api.ErrNoMSHFirst] < 100 {
		t.Errorf("taken %d, refused %v", taken, codes)
	}
}
