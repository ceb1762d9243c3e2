package batch

import (
	"fmt"
	"math/rand/v2"
	"slices"
	"strings"
	"testing"

	"courier/api"
	"courier/tree"
)

// P2001: what is wrong with a head, a trailer, a message; which of several comes first.

// wrongHeads are fields' texts and marks that layer 6 does not read behind MSH; each with its number and its place in the text that is made.
var wrongHeads = []struct {
	rest string
	code api.Errno
	at   int
}{
	{"", api.ErrNoMSH, 3},
	{"|", api.ErrNoMSH, 4},
	{"|^~\\", api.ErrNoMSH, 7},
	{"|^~\\|", api.ErrNoMSH, 7},
	{"|^~^&", api.ErrNoMSH, 6},
	{"A^~\\&", api.ErrNoMSH, 3},
	{"|^~\\&X", api.ErrNoMSH, 8},
	{"X|^~\\&", api.ErrNoMSH, 3},
	{"|^~\\&|a\tb", api.ErrWire, 10},
	{"|^~\\&|a\\Q\\", api.ErrWire, 10},
	{"|^~\\&|a\nPID", api.ErrWire, 10},
	{"|^~\\&|\x0B", api.ErrWire, 9},
	{"|^~\\&" + strings.Repeat("|", 65), api.ErrMany, 73},
	{"|^~\\&|" + strings.Repeat("~", 32), api.ErrMany, 41},
	{"|^~\\&|" + strings.Repeat("^", 32), api.ErrMany, 41},
	{"|^~\\&|" + strings.Repeat("&", 16), api.ErrMany, 25},
	{"|^~\\&|" + strings.Repeat("x", 8183), api.ErrLong, 0},
}

// under holds that a fault of layer 6 stands under another, with its own number and place.
func under(t *testing.T, what string, f *api.Fault, code api.Errno, at int) *api.Fault {
	t.Helper()
	if f == nil || f.Code != code {
		t.Fatalf("%.100q: %v, want number %d", what, f, code)
	}
	if u := f.Under.(*api.Fault); u.Layer != "tree" || u.Code != code || u.At != at {
		t.Fatalf("%.100q: under it %v, want number %d at %d", what, u, code, at)
	}
	return f
}

func TestP2001WrongHeads(t *testing.T) {
	for _, w := range wrongHeads {
		made := "MSH" + w.rest + "\r"
		refuses(t, "FHS"+w.rest+"\r"+textOf("BMTZ"), under(t, made, below(0, made), w.code, w.at))
		refuses(t, "FHS"+w.rest, under(t, made, below(0, made), w.code, w.at))
		refuses(t, "BHS"+w.rest+"\r"+textOf("MT"), under(t, made, below(0, made), w.code, w.at))
		ahead := textOf("F")
		refuses(t, ahead+"BHS"+w.rest+"\r"+textOf("MTZ"), under(t, made, below(len(ahead), made), w.code, w.at))
		ahead = textOf("FBMMiT")
		refuses(t, ahead+"BHS"+w.rest+"\r"+textOf("MTZ"), under(t, made, below(len(ahead), made), w.code, w.at))
	}
}

// TestP2001Heads: what a head says, in normal form, by its own name.
func TestP2001Heads(t *testing.T) {
	for rest, want := range map[string][]api.Seg{
		"":                     seg(""),
		"|":                    seg(""),
		"|||^~&|":              seg(""),
		"|X":                   seg("", "X"),
		"|X||":                 seg("", "X"),
		"||LAB|\\F\\|\"\"":     seg("", "", "LAB", "\\F\\", "\"\""),
		"|MSH|FHS|BHS|BTS|FTS": seg("", "MSH", "FHS", "BHS", "BTS", "FTS"),
		"|a^b^^":               {{Fields: []api.Field{field("a", "b")}}},
		"|a&b^c~&d~~":          {{Fields: []api.Field{{Reps: []api.Rep{{Comps: []api.Comp{{Subs: []string{"a", "b"}}, {Subs: []string{"c"}}}}, {Comps: []api.Comp{{Subs: []string{"", "d"}}}}}}}}},
	} {
		named := func(name string) []api.Seg { return []api.Seg{{Name: name, Fields: want[0].Fields}} }
		b := headed(msgA)
		b.Head = named("BHS")
		says(t, "BHS|^~\\&"+rest+"\r"+msgA+"BTS", api.File{Batches: []api.Batch{b}})
		f := filed(b, b)
		f.Head = named("FHS")
		says(t, "FHS|^~\\&"+rest+"\rBHS|^~\\&"+rest+"\r"+msgA+"BTS\rBHS|^~\\&"+rest+"\r"+msgA+"BTS\rFTS", f)
	}
}

// wrongTails are what layer 6 does not read behind BTS or FTS; each with its number and its place behind these.
var wrongTails = []struct {
	rest string
	code api.Errno
	at   int
}{
	{"X", api.ErrSegName, 0},
	{"1", api.ErrSegName, 0},
	{"^1", api.ErrSegName, 0},
	{" |1", api.ErrSegName, 0},
	{"|1\t", api.ErrWire, 2},
	{"|\\Q\\", api.ErrWire, 1},
	{"|1|a\n", api.ErrWire, 4},
	{strings.Repeat("|", 65), api.ErrMany, 65},
	{"|" + strings.Repeat("~", 32), api.ErrMany, 33},
	{"|" + strings.Repeat("^", 32), api.ErrMany, 33},
	{"|" + strings.Repeat("&", 16), api.ErrMany, 17},
	{"|1|" + strings.Repeat("x", 8177), api.ErrLong, -12},
}

func TestP2001WrongTails(t *testing.T) {
	for _, w := range wrongTails {
		for _, ahead := range []string{textOf("BM"), textOf("FBM"), textOf("FBMMiTBMM")} {
			made := head + "\rBTS" + w.rest + "\r"
			want := under(t, made, below(len(ahead), made), w.code, 12+w.at)
			refuses(t, ahead+"BTS"+w.rest, want)
			refuses(t, ahead+"BTS"+w.rest+"\r"+textOf("Z"), want)
		}
		for _, ahead := range []string{textOf("FBMT"), textOf("FBMMiTBMMT")} {
			made := head + "\rFTS" + w.rest + "\r"
			want := under(t, made, below(len(ahead), made), w.code, 12+w.at)
			refuses(t, ahead+"FTS"+w.rest, want)
			refuses(t, ahead+"FTS"+w.rest+"\r", want)
		}
	}
}

// counts1 are field 1 and what stands behind it, where there are three; taken: it counts right.
var counts1 = []struct {
	rest  string
	taken bool
}{
	{"", true}, {"|", true}, {"||", true}, {"|^", true}, {"|~&^", true}, {"||x", true}, {"|^|3|4", true},
	{"|3", true}, {"|3|", true}, {"|3^", true}, {"|3~", true}, {"|3&", true}, {"|3&^&~^", true}, {"|3|some text|4", true},
	{"|2", false}, {"|4", false}, {"|0", false}, {"|-3", false}, {"|+3", false}, {"|03", false}, {"|003", false}, {"|3.0", false}, {"|3 ", false}, {"| 3", false}, {"| ", false},
	{"|33", false}, {"|13", false}, {"|30", false}, {"|three", false}, {"|\"\"", false}, {"|0x3", false}, {"|3\x80", false},
	{"|\\X33\\", false}, {"|\\H\\", false}, {"|\\N\\", false}, {"|\\Z\\", false}, {"|3\\H\\", false}, {"|\\H\\3", false},
	{"|3^3", false}, {"|3~3", false}, {"|3&3", false}, {"|^3", false}, {"|~3", false}, {"|&3", false}, {"|3^^x", false}, {"|3~x", false},
	{"|18446744073709551619", false}, {"|4294967299", false}, {"|-18446744073709551613", false},
}

func TestP2001Counts(t *testing.T) {
	for _, c := range counts1 {
		ahead := textOf("BMiMMii")
		text := ahead + "BTS" + c.rest
		if c.taken {
			m, err := tree.Parse([]byte(head + "\rBTS" + c.rest))
			if err != nil {
				t.Fatal(err)
			}
			says(t, text, api.File{Batches: []api.Batch{{Head: seg("BHS", "b"), Messages: []string{msgA + "PID|1\r", msgA, msgA + "PID|1\rPID|1\r"}, Tail: m.Segs[1:]}}})
		} else {
			refuses(t, text, no(api.ErrCount, len(ahead)))
			refuses(t, text+"\r"+textOf("Z"), no(api.ErrCount, len(ahead)))
		}
		ahead = textOf("FBMTBMMTBMT")
		text = ahead + "FTS" + c.rest
		if code := reads(t, text); c.taken != (code == api.OK) {
			t.Errorf("P2001: %q: number %d", text, code)
		}
		if !c.taken {
			refuses(t, text, no(api.ErrCount, len(ahead)))
			refuses(t, text+"\rPID\r", no(api.ErrCount, len(ahead)))
		}
	}
}

// TestP2001CountsWhat: a BTS counts the messages of its batch alone, an FTS the batches.
func TestP2001CountsWhat(t *testing.T) {
	for a := 1; a <= 12; a++ {
		for b := 1; b <= 3; b++ {
			for said := range 14 {
				text := textOf("FB"+strings.Repeat("M", a)) + fmt.Sprintf("BTS|%d\r", said)
				ahead := len(textOf("FB" + strings.Repeat("M", a)))
				second := textOf("B" + strings.Repeat("M", b))
				rest := second + fmt.Sprintf("BTS|%d\r", b)
				if said != a {
					refuses(t, text+rest+"FTS|2", no(api.ErrCount, ahead))
					continue
				}
				reads(t, text+rest+"FTS|2")
				refuses(t, text+second+fmt.Sprintf("BTS|%d\rFTS|2", a+b), no(api.ErrCount, len(text+second)))
				if a+b != 2 {
					refuses(t, text+rest+fmt.Sprintf("FTS|%d", a+b), no(api.ErrCount, len(text+rest)))
				}
				refuses(t, text+rest+"FTS|1", no(api.ErrCount, len(text+rest)))
				refuses(t, text+rest+"FTS|3", no(api.ErrCount, len(text+rest)))
			}
		}
	}
}

func TestP2001WrongMessages(t *testing.T) {
	wrong := []string{
		head + "|a\tb\r", head + "|\\Q\\\r", head + "X\r", "MSH\r", "MSH|^~\\\r", "MSHX\r",
		head + "\rPIDX\r", head + "\r\r", head + "\rpid\r", head + "\rPI\r", msgA + "PID|1\rOBX|\\\r",
		msgA + strings.Repeat("PID\r", 128), msgA + strings.Repeat("PID|"+strings.Repeat("x", 100)+"\r", 90), longMessage(8193),
	}
	for _, w := range wrong {
		for _, ahead := range []string{"", textOf("M"), textOf("Mi"), textOf("B"), textOf("BM"), textOf("FB"), textOf("FBMMTBM")} {
			want := below(len(ahead), w)
			if want == nil {
				t.Fatalf("%q is right", w)
			}
			// Whatever closes it: the end, with and without its CR, another message, a trailer, a segment that cannot stand.
			for _, behind := range []string{"", msgA, "MSHX", "BTS\r", "BTS|7\r", "BTSX\r", "FTS\r", "FHS", "BHS|^~\\&\r", "BHSX"} {
				refuses(t, ahead+w+behind, want)
			}
			if !strings.HasSuffix(w, "\r\r") {
				refuses(t, ahead+strings.TrimSuffix(w, "\r"), want)
			}
		}
	}
}

// TestP2001OneForms: of a message its one form is told.
func TestP2001OneForms(t *testing.T) {
	says(t, head+"|A||\rPID|1^^~|\rOBX|", bare(msgA+"PID|1\rOBX\r"))
	says(t, head+"|\r"+head+"||B^&\r", bare(head+"\r", head+"||B\r"))
	says(t, msgA+strings.Repeat("PID\r", 127), bare(msgA+strings.Repeat("PID\r", 127)))
	// The room that empty ends take counts for layer 6, though they are left out.
	long := head + "|" + strings.Repeat("x", 8182) + "|"
	refuses(t, long, under(t, long, below(0, long+"\r"), api.ErrLong, 0))
	says(t, head+"|"+strings.Repeat("x", 8181)+"|", bare(head+"|"+strings.Repeat("x", 8181)+"\r"))
}

func TestP2001Marks(t *testing.T) {
	for _, five := range []string{"#~\\&|", "|^~\\#", "|^~#&", "|^#\\&", "|#~\\&", "#^~\\&", "^|~\\&", "|~^\\&", "&\\~^|", "#$%!?", "!\"#$%"} {
		// Heads and messages of one file, in other marks than usual; and the usual ones behind those.
		f, b, m := "FHS"+five+"\r", "BHS"+five+"\r", "MSH"+five+"\r"
		says(t, m+m, bare(m, m))
		says(t, f+b+m+"BTS"+five[:1]+"1\rFTS"+five[:1]+"1\r", api.File{Head: seg("FHS"), Tail: seg("FTS", "1"), Batches: []api.Batch{{Head: seg("BHS"), Tail: seg("BTS", "1"), Messages: []string{m}}}})
		usual := map[string]string{"F": "FHS|^~\\&\r", "B": "BHS|^~\\&\r", "M": head + "\r"}
		refuses(t, usual["M"]+m, no(api.ErrMark, 9))
		refuses(t, m+usual["M"], no(api.ErrMark, 9))
		refuses(t, m+m+usual["M"]+"PID\r"+m, no(api.ErrMark, 18))
		refuses(t, usual["B"]+m+"BTS", no(api.ErrMark, 9))
		refuses(t, b+usual["M"]+"BTS", no(api.ErrMark, 9))
		refuses(t, b+m+usual["M"]+"BTS", no(api.ErrMark, 18))
		refuses(t, usual["F"]+b+m+"BTS\rFTS", no(api.ErrMark, 9))
		refuses(t, f+usual["B"]+m+"BTS\rFTS", no(api.ErrMark, 9))
		refuses(t, f+b+usual["M"]+"BTS\rFTS", no(api.ErrMark, 18))
		refuses(t, f+b+m+"BTS\r"+usual["B"]+m+"BTS\rFTS", no(api.ErrMark, 31))
		refuses(t, f+b+m+"BTS\r"+b+usual["M"]+"BTS\rFTS", no(api.ErrMark, 40))
		refuses(t, f+b+m+"BTS\r"+b+m+usual["M"], no(api.ErrMark, 49))
	}
	// A trailer has the file's marks, whatever it says.
	refuses(t, "BHS#$%!?\rMSH#$%!?\rBTS|1\r", below(18, "MSH#$%!?\rBTS|1\r"))
	refuses(t, "BHS#$%!?\rMSH#$%!?\rBTS#1|\r", no(api.ErrCount, 18))
	says(t, "BHS#$%!?\rMSH#$%!?#|\rBTS#1#|^~\\&", api.File{Batches: []api.Batch{{Head: seg("BHS"), Tail: seg("BTS", "1", "|^~\\&"), Messages: []string{"MSH#$%!?#|\r"}}}})
}

// TestP2001WhichComesFirst: two faults, of which the first one of the chapter's order is told.
func TestP2001WhichComesFirst(t *testing.T) {
	wrong := head + "|\t\r"
	strange := "MSH#$%!?\r"
	// The message ahead of the segment behind it, layer 6 ahead of the marks.
	refuses(t, msgA+"MSH#$%!?#\t\rBTS", below(11, "MSH#$%!?#\t\r"))
	refuses(t, msgA+wrong+"BTSX", below(11, wrong))
	refuses(t, msgA+strange+"BTSX", no(api.ErrMark, 11))
	refuses(t, msgA+strange+"FHS", no(api.ErrMark, 11))
	refuses(t, textOf("B")+strange, no(api.ErrMark, 11))
	refuses(t, textOf("B")+wrong, below(11, wrong))
	// What cannot stand ahead of what is wrong with it.
	refuses(t, textOf("F")+"FHSX", no(api.ErrOrder, 11))
	refuses(t, textOf("F")+"FHS#$%!?", no(api.ErrOrder, 11))
	refuses(t, textOf("B")+"BHS#$%!?", no(api.ErrOrder, 11))
	refuses(t, textOf("F")+wrong, no(api.ErrOrder, 11))
	refuses(t, textOf("F")+strange, no(api.ErrOrder, 11))
	refuses(t, textOf("B")+"BTS|7", no(api.ErrOrder, 11))
	refuses(t, textOf("M")+"BTS|7", no(api.ErrOrder, 11))
	refuses(t, textOf("BM")+"FTS|7", no(api.ErrOrder, 22))
	refuses(t, textOf("F")+"FTS|7", no(api.ErrOrder, 11))
	// Layer 6 ahead of the marks, ahead of the number.
	refuses(t, textOf("F")+"BHS#$%!?#\t", below(11, "MSH#$%!?#\t\r"))
	refuses(t, textOf("BM")+"BTS|7|\t", below(22, head+"\rBTS|7|\t\r"))
	refuses(t, textOf("FBMT")+"FTS|7|\t", below(37, head+"\rFTS|7|\t\r"))
	// From the left: an earlier segment ahead of a later one.
	refuses(t, "BHS|^~\\&\r"+msgA+"BTS|2\rBTS", no(api.ErrCount, 20))
	refuses(t, "BHS|^~\\&\r"+msgA+"BTS|2\r"+wrong, no(api.ErrCount, 20))
	refuses(t, textOf("FB")+msgA+"BTS|2\rFTS|7", no(api.ErrCount, 33))
	refuses(t, wrong+strange+"PID\r", below(0, wrong))
	refuses(t, msgA+strange+wrong, no(api.ErrMark, 11))
	refuses(t, msgA+wrong+strange, below(11, wrong))
	refuses(t, "PID\r"+wrong, no(api.ErrOrder, 0))
}

// pool are segments of each kind, right ones and wrong ones, that the random texts are made of.
var pool = map[byte][]string{
	'F': {"FHS|^~\\&", "FHS|^~\\&|X||", "FHS|^~\\&", "FHS#$%!?", "FHS|^~\\", "FHS|^~\\&|\t", "FHSX"},
	'B': {"BHS|^~\\&", "BHS|^~\\&|X|Y^Z|", "BHS|^~\\&", "BHS#$%!?", "BHS", "BHS|^~\\&|\\Q\\", "BHS|^~\\&X"},
	'M': {"MSH|^~\\&", "MSH|^~\\&|A", "MSH|^~\\&|B|", "MSH|^~\\&||C^&D", "MSH#$%!?", "MSH|^~\\&|\\", "MSHX"},
	'T': {"BTS", "BTS|", "BTS|1", "BTS|2", "BTS|3", "BTS|01", "BTS|1^", "BTS|\\X31\\", "BTS||x", "BTS#1", "BTSX", "BTS|1^1"},
	'Z': {"FTS", "FTS|", "FTS|1", "FTS|2", "FTS|3", "FTS|\\X31\\", "FTS|1&", "FTS|&1", "FTS#1", "FTSX"},
	'i': {"PID", "PID|1", "OBX|a||", "ZZ1|\\F\\", "", "pid", "PID|\t", "PIDX", "MS"},
}

// someText makes a text in which most segments can stand and most are right.
func someText(r *rand.Rand) string {
	text, kinds := "", ""
	all := strings.Split("FBMTZi", "")
	rightly := 1 + r.IntN(30)
	for range 1 + r.IntN(14) {
		if strings.Contains(follows(kinds), "$") && r.IntN(3) == 0 {
			break
		}
		kind := pick(r, all)
		for tries := 0; tries < 20 && r.IntN(20) != 0 && !strings.Contains(follows(kinds), kind); tries++ {
			kind = pick(r, all)
		}
		kinds += kind
		list := pool[kind[0]]
		if r.IntN(rightly) == 0 {
			text += pick(r, list) + "\r"
		} else {
			text += list[r.IntN(3)] + "\r"
		}
	}
	if r.IntN(3) == 0 {
		text = text[:len(text)-1]
	}
	return text
}

func TestP2001Random(t *testing.T) {
	r := rand.New(rand.NewPCG(20, 1))
	met := map[api.Errno]int{}
	for range 40000 {
		text := someText(r)
		code := reads(t, text)
		met[code]++
		if code == api.OK {
			backAndForth(t, text)
		}
	}
	for _, code := range []api.Errno{api.OK, api.ErrOrder, api.ErrMark, api.ErrCount, api.ErrNoMSH, api.ErrSegName, api.ErrWire} {
		if met[code] < 100 {
			t.Errorf("the number %d came %d times", code, met[code])
		}
	}
}

// TestP2001RandomBytes: a right text with some bytes written over, put in, or left out.
func TestP2001RandomBytes(t *testing.T) {
	r := rand.New(rand.NewPCG(20, 2))
	texts := []string{textOf("FBMiTBMMTZ"), textOf("BMMiT"), textOf("MiMM"), "FHS|^~\\&\rBHS|^~\\&|X\rMSH|^~\\&|A|B\rBTS|1\rFTS|1\r"}
	bytes := "MSHFBTI|^~\\&\r\r\r\r12 \t\x00\x80"
	for range 60000 {
		b := []byte(pick(r, texts))
		for range 1 + r.IntN(4) {
			at, c := r.IntN(len(b)), bytes[r.IntN(len(bytes))]
			switch r.IntN(3) {
			case 0:
				b[at] = c
			case 1:
				b = slices.Insert(b, at, c)
			case 2:
				b = slices.Delete(b, at, at+1)
			}
		}
		if reads(t, string(b)) == api.OK {
			backAndForth(t, string(b))
		}
	}
}
