package batch

import (
	"fmt"
	"math/rand/v2"
	"reflect"
	"slices"
	"strings"
	"testing"

	"courier/api"
	"courier/tree"
)

// P2002: what Print refuses, in the chapter's order, and what it writes.

// refusesFile holds that Print refuses a file so, and tells nothing else; so does Answer, with that under its own number.
func refusesFile(t *testing.T, what string, f api.File, want *api.Fault) {
	t.Helper()
	text, err := Print(f)
	if !isFault(err, want) || text != "" {
		t.Errorf("P2002: %s: %.300q, %v, want %v", what, text, err, want)
	}
	for _, i := range []int{-1, 0, len(f.Batches)} {
		b, err2 := Answer(f, i, []string{"", "x"})
		if !isFault(err2, &api.Fault{At: -1, Code: api.ErrFile, Under: err}) || !reflect.DeepEqual(b, api.Batch{}) {
			t.Errorf("P2005: %s: Answer: %v, %v", what, b, err2)
		}
	}
}

// writes holds that Print writes a file so, and that Parse reads it back.
func writes(t *testing.T, what string, f api.File, want string) {
	t.Helper()
	text, err := Print(f)
	if err != nil || text != want {
		t.Errorf("P2002: %s: %.300q, %v, want %.300q", what, text, err, want)
	}
	if back, err := Parse(text); err != nil || shape(back) != shape(normalFile(f)) {
		t.Errorf("P2006: %s: read back as %.300s, %v", what, shape(back), err)
	}
}

// normalFile is a file with its segments normal.
func normalFile(f api.File) api.File {
	normal := func(list []api.Seg) []api.Seg { return tree.Normal(api.Message{Segs: list}).Segs }
	made := api.File{Head: normal(f.Head), Tail: normal(f.Tail)}
	for _, b := range f.Batches {
		made.Batches = append(made.Batches, api.Batch{Head: normal(b.Head), Tail: normal(b.Tail), Messages: b.Messages})
	}
	return made
}

// pairs are heads and tails of which one thing is wrong, for either name.
func pairs(headName, tailName string) map[string][2][]api.Seg {
	head, tail := seg(headName), seg(tailName)
	two := func(a, b []api.Seg) []api.Seg { return append(slices.Clone(a), b...) }
	all := map[string][2][]api.Seg{
		"a head alone":      {head, nil},
		"a tail alone":      {nil, tail},
		"an empty tail":     {head, {}},
		"two heads":         {two(head, head), tail},
		"two tails":         {head, two(tail, tail)},
		"two of each":       {two(head, head), two(tail, tail)},
		"two heads alone":   {two(head, head), nil},
		"two tails alone":   {nil, two(tail, tail)},
		"a tail as head":    {tail, tail},
		"a head as tail":    {head, head},
		"the other way":     {tail, head},
		"head and tail, no": {two(head, tail), nil},
	}
	for _, name := range []string{"", "MSH", "FHS", "BHS", "FTS", "BTS", "fhs", "bhs", "fts", "bts", "FHSX", "FH", "BTS|", "\r"} {
		if name != headName {
			all["the head "+name] = [2][]api.Seg{seg(name), tail}
		}
		if name != tailName {
			all["the tail "+name] = [2][]api.Seg{head, seg(name)}
		}
	}
	return all
}

func TestP2002NoFile(t *testing.T) {
	for what, p := range pairs("FHS", "FTS") {
		f := filed(headed(msgA))
		f.Head, f.Tail = p[0], p[1]
		refusesFile(t, what, f, no(api.ErrFile, -1))
		f.Batches = nil
		refusesFile(t, what+", no batch", f, no(api.ErrFile, -1))
		f.Batches = slices.Repeat([]api.Batch{headed(msgA)}, 65)
		refusesFile(t, what+", too many", f, no(api.ErrFile, -1))
		f.Batches = []api.Batch{{}}
		refusesFile(t, what+", an empty batch", f, no(api.ErrFile, -1))
	}
	refusesFile(t, "nothing", api.File{}, no(api.ErrFile, -1))
	refusesFile(t, "an empty list", api.File{Head: []api.Seg{}, Batches: []api.Batch{}, Tail: []api.Seg{}}, no(api.ErrFile, -1))
	refusesFile(t, "heads alone", filed(), no(api.ErrFile, -1))
	for _, n := range []int{2, 3, 64, 65} {
		f := filed(slices.Repeat([]api.Batch{headed(msgA)}, n)...)
		f.Head, f.Tail = nil, nil
		refusesFile(t, fmt.Sprint(n, " batches without a head"), f, no(api.ErrFile, -1))
		f.Batches = slices.Repeat(bare(msgA).Batches, n)
		refusesFile(t, fmt.Sprint(n, " bare batches"), f, no(api.ErrFile, -1))
	}
}

func TestP2002MaxBatches(t *testing.T) {
	for _, n := range []int{1, 2, 63, 64} {
		f := filed(slices.Repeat([]api.Batch{headed(msgA)}, n)...)
		writes(t, fmt.Sprint(n, " batches"), f, strings.NewReplacer("BTS|1", "BTS", fmt.Sprintf("FTS|%d", n), "FTS").Replace(many(n, 1)))
	}
	for _, n := range []int{65, 66, 1000} {
		f := filed(slices.Repeat([]api.Batch{headed(msgA)}, n)...)
		refusesFile(t, fmt.Sprint(n, " batches"), f, no(api.ErrMany, -1))
		// Ahead of all that is wrong with one of them, or with the heads.
		f.Batches[0] = api.Batch{}
		refusesFile(t, "too many, and one wrong", f, no(api.ErrMany, -1))
		f.Tail = seg("FTS", "7")
		refusesFile(t, "too many, not counted", f, no(api.ErrMany, -1))
		f.Head = seg("FHS", "\t")
		refusesFile(t, "too many, a wrong head", f, no(api.ErrMany, -1))
	}
}

// at puts a batch behind so many right ones.
func at(n int, b api.Batch) api.File {
	return filed(append(slices.Repeat([]api.Batch{headed(msgA)}, n), b)...)
}

func TestP2002NoBatch(t *testing.T) {
	for _, n := range []int{0, 1, 5, 63} {
		for what, p := range pairs("BHS", "BTS") {
			b := api.Batch{Head: p[0], Tail: p[1], Messages: []string{msgA}}
			refusesFile(t, what, at(n, b), no(api.ErrFile, n))
			if n == 0 {
				refusesFile(t, what, api.File{Batches: []api.Batch{b}}, no(api.ErrFile, 0))
			}
		}
		refusesFile(t, "no head where the file has one", at(n, bare(msgA).Batches[0]), no(api.ErrFile, n))
		refusesFile(t, "no message", at(n, headed()), no(api.ErrFile, n))
		refusesFile(t, "nothing", at(n, api.Batch{}), no(api.ErrFile, n))
	}
	refusesFile(t, "no message", bare(), no(api.ErrFile, 0))
	refusesFile(t, "no message", api.File{Batches: []api.Batch{headed()}}, no(api.ErrFile, 0))
	// The first of two.
	f := at(2, headed())
	f.Batches[1].Head = nil
	refusesFile(t, "two wrong ones", f, no(api.ErrFile, 1))
}

// noForms are texts that are no one form of a message, or that a file cannot carry.
var noForms = []string{
	"", "x", "\r", "MSH", "MSH\r", "MSH|^~\\\r", head, head + "|A", "\r" + msgA, msgA + "\r", msgA + "PID", msgA + "PID|1",
	head + "|\r", head + "|A|\r", head + "|A^\r", head + "|A~\r", head + "|A&\r", msgA + "PID|\r", msgA + "PID|1||\r", head + "|^\r",
	msgA + msgB, msgA + "PIDX\r", msgA + "pid\r", head + "|\t\r", head + "|\\Q\\\r", head + "|A\n", head + "|A\r\n",
	"FHS|^~\\&|A\r", "BHS|^~\\&\r", "BTS|1\r", "PID|1\r", "msh|^~\\&\r",
	msgA + "FHS\r", msgA + "BHS\r", msgA + "BTS\r", msgA + "FTS\r", msgA + "FHS|^~\\&\r", msgA + "BTS|1\r", msgA + "PID|1\rFTS|x\rOBX\r", msgA + "PID\rBHS\r",
	longMessage(8193), longMessage(8193)[:8192], longMessage(8192)[:8191],
	msgA + strings.Repeat("PID\r", 128), strings.Repeat("x", 100000),
}

func TestP2002NoForms(t *testing.T) {
	for _, text := range noForms {
		what := fmt.Sprintf("%.60q", text)
		refusesFile(t, what, bare(text), no(api.ErrFile, 0))
		refusesFile(t, what, bare(msgA, text, msgB), no(api.ErrFile, 0))
		refusesFile(t, what, at(3, headed(msgA, msgB, text)), no(api.ErrFile, 3))
		// Ahead of all that comes behind ErrFile, in its batch and in later ones; behind what is wrong with an earlier one.
		b := headed("MSH#$%!?\r", text)
		b.Head, b.Tail = seg("BHS", "\t"), seg("BTS", "7")
		refusesFile(t, what, at(3, b), no(api.ErrFile, 3))
		b.Messages = append(slices.Repeat([]string{msgA}, 300), text)
		refusesFile(t, what, at(3, b), no(api.ErrFile, 3))
		f := at(3, b)
		f.Batches[1].Tail = seg("BTS", "2")
		refusesFile(t, what, f, no(api.ErrCount, 1))
	}
	// What a file can carry, though it looks like it.
	for _, text := range []string{msgA + "FHX\r", msgA + "BT1\r", msgA + "ZTS|BTS\r", msgA + "PID|BTS|FTS\r", head + "|MSH|BTS\r", msgA + "MSA|FHS\r", longMessage(8192), msgA + strings.Repeat("PID\r", 127)} {
		writes(t, text, bare(text), text)
		f := filed(headed(text))
		writes(t, text, f, "FHS|^~\\&\rBHS|^~\\&\r"+text+"BTS\rFTS\r")
	}
}

func TestP2002MaxInFile(t *testing.T) {
	writes(t, "256", bare(slices.Repeat([]string{msgA}, 256)...), strings.Repeat(msgA, 256))
	f := filed(slices.Repeat([]api.Batch{headed(msgA, msgA, msgB, msgA)}, 64)...)
	if prints(t, f) != api.OK {
		t.Error("P2002: 64 times four messages")
	}
	for n, want := range map[int]int{0: 63, 1: 63, 40: 63, 62: 63, 63: 63} {
		g := filed(slices.Clone(f.Batches)...)
		g.Batches[n].Messages = append(slices.Clone(g.Batches[n].Messages), msgA)
		refusesFile(t, fmt.Sprint("one more in ", n), g, no(api.ErrMany, want))
	}
	refusesFile(t, "257", bare(slices.Repeat([]string{msgA}, 257)...), no(api.ErrMany, 0))
	refusesFile(t, "257 in the first", filed(headed(slices.Repeat([]string{msgA}, 257)...), headed("x")), no(api.ErrMany, 0))
	refusesFile(t, "256 and one", filed(headed(slices.Repeat([]string{msgA}, 256)...), headed(msgB)), no(api.ErrMany, 1))
	refusesFile(t, "257, the last is wrong", bare(append(slices.Repeat([]string{msgA}, 256), "x")...), no(api.ErrFile, 0))
	// Ahead of the marks, of what the head says, of the number.
	b := headed(append(slices.Repeat([]string{msgA}, 256), "MSH#$%!?\r")...)
	b.Head, b.Tail = seg("BHS", "\t"), seg("BTS", "7")
	refusesFile(t, "257, and more", filed(b), no(api.ErrMany, 0))
	refusesFile(t, "257 in a wrong pair", filed(api.Batch{Head: b.Head, Messages: b.Messages}), no(api.ErrFile, 0))
}

func TestP2002Marks(t *testing.T) {
	strange := "MSH#$%!?#A\r"
	refusesFile(t, "the second", bare(msgA, strange), no(api.ErrMark, 0))
	refusesFile(t, "the first", bare(strange, msgA), no(api.ErrMark, 0))
	refusesFile(t, "the middle", bare(msgA, strange, msgA), no(api.ErrMark, 0))
	refusesFile(t, "another batch", at(2, headed(msgA, strange)), no(api.ErrMark, 2))
	refusesFile(t, "another batch", at(2, headed(strange)), no(api.ErrMark, 2))
	refusesFile(t, "the first batch", filed(headed(strange), headed(msgA), headed(strange)), no(api.ErrMark, 1))
	for _, five := range []string{"#~\\&|", "|^~\\#", "|^~#&", "|^#\\&", "|#~\\&", "#^~\\&", "^|~\\&", "!\"#$%"} {
		refusesFile(t, five, bare(msgA, "MSH"+five+"\r"), no(api.ErrMark, 0))
		writes(t, five, bare("MSH"+five+"\r", "MSH"+five+"\rPID\r"), "MSH"+five+"\rMSH"+five+"\rPID\r")
	}
	// Ahead of the head and the tail, whatever they are under either marks.
	b := headed(msgA, strange)
	b.Head, b.Tail = seg("BHS", "\t"), seg("BTS", "7")
	refusesFile(t, "a wrong head", filed(b), no(api.ErrMark, 0))
	refusesFile(t, "a wrong head", api.File{Batches: []api.Batch{b}}, no(api.ErrMark, 0))
	f := filed(headed(msgA), headed(strange))
	f.Batches[0].Tail = seg("BTS", "7")
	refusesFile(t, "an earlier batch", f, no(api.ErrCount, 0))
}

// noSegs are fields that cannot be read under the usual marks, nor under the other ones.
func noSegs() map[string][]api.Field {
	deep := func(reps, comps, subs int) []api.Field {
		c := api.Comp{Subs: make([]string, subs)}
		r := api.Rep{Comps: slices.Repeat([]api.Comp{c}, comps)}
		return []api.Field{{Reps: slices.Repeat([]api.Rep{r}, reps)}}
	}
	return map[string][]api.Field{
		"a tab":                       {field("\t")},
		"a CR":                        {field("a\rPID")},
		"a mark":                      {{}, field("a|b#")},
		"an open escape":              {field("x\\!")},
		"a byte 7F":                   {{}, {}, field("", "\x7F")},
		"65 fields":                   append(make([]api.Field, 64), field("x")),
		"65 empty fields":             make([]api.Field, 65),
		"33 repetitions":              deep(33, 1, 1),
		"33 components":               deep(1, 33, 1),
		"17 subs":                     deep(1, 1, 17),
		"33 components in the second": {{Reps: []api.Rep{{}, {Comps: make([]api.Comp, 33)}}}},
		"too long":                    {{}, field(strings.Repeat("x", 8193))},
		"too long in all":             {{}, field(strings.Repeat("x", 4100)), field(strings.Repeat("x", 4100))},
	}
}

func TestP2002NoHeads(t *testing.T) {
	for what, fields := range noSegs() {
		for _, k := range []string{"|^~\\&", "#$%!?"} {
			m := "MSH" + k + "\r"
			f := filed(headed(m), headed(m, m))
			f.Batches[1].Head[0].Fields = fields
			refusesFile(t, "BHS: "+what, f, no(api.ErrForm, 1))
			refusesFile(t, "BHS alone: "+what, api.File{Batches: f.Batches[1:]}, no(api.ErrForm, 0))
			f.Batches[1].Tail = seg("BTS", "7")
			refusesFile(t, "BHS ahead of the number: "+what, f, no(api.ErrForm, 1))
			f = filed(headed(m), headed(m, m))
			f.Batches[1].Tail[0].Fields = fields
			refusesFile(t, "BTS: "+what, f, no(api.ErrForm, 1))
			f = filed(headed(m), headed(m, m))
			f.Head[0].Fields = fields
			refusesFile(t, "FHS: "+what, f, no(api.ErrForm, -1))
			f.Tail = seg("FTS", "7")
			refusesFile(t, "FHS ahead of the number: "+what, f, no(api.ErrForm, -1))
			f.Batches[1].Tail = seg("BTS", "7")
			refusesFile(t, "FHS behind a batch: "+what, f, no(api.ErrCount, 1))
			f = filed(headed(m), headed(m, m))
			f.Tail[0].Fields = fields
			refusesFile(t, "FTS: "+what, f, no(api.ErrForm, -1))
		}
	}
	// What stands in a head is looked at under the messages' marks.
	for _, text := range []string{"a#b", "$", "!F!"} {
		f := filed(headed(msgA))
		f.Head[0].Fields = []api.Field{field(text)}
		writes(t, text, f, "FHS|^~\\&|"+text+"\rBHS|^~\\&\r"+msgA+"BTS\rFTS\r")
		f.Batches[0].Messages = []string{"MSH#$%!?\r"}
		if text == "!F!" {
			writes(t, text, f, "FHS#$%!?#!F!\rBHS#$%!?\rMSH#$%!?\rBTS\rFTS\r")
		} else {
			refusesFile(t, text, f, no(api.ErrForm, -1))
		}
	}
}

// TestP2002LongestHeads: as long as they can be read, and one byte more.
func TestP2002LongestHeads(t *testing.T) {
	for _, more := range []int{0, 1} {
		x, y := strings.Repeat("x", 8182+more), strings.Repeat("y", 8177+more)
		f := filed(headed(msgA))
		f.Head = seg("FHS", x)
		g := filed(headed(msgA))
		g.Batches[0].Head = seg("BHS", x)
		h := filed(headed(msgA))
		h.Batches[0].Tail = seg("BTS", "", y)
		z := filed(headed(msgA))
		z.Tail = seg("FTS", "", y)
		if more > 0 {
			refusesFile(t, "FHS", f, no(api.ErrForm, -1))
			refusesFile(t, "BHS", g, no(api.ErrForm, 0))
			refusesFile(t, "BTS", h, no(api.ErrForm, 0))
			refusesFile(t, "FTS", z, no(api.ErrForm, -1))
			continue
		}
		writes(t, "FHS", f, "FHS|^~\\&|"+x+"\rBHS|^~\\&\r"+msgA+"BTS\rFTS\r")
		writes(t, "BHS", g, "FHS|^~\\&\rBHS|^~\\&|"+x+"\r"+msgA+"BTS\rFTS\r")
		writes(t, "BTS", h, "FHS|^~\\&\rBHS|^~\\&\r"+msgA+"BTS||"+y+"\rFTS\r")
		writes(t, "FTS", z, "FHS|^~\\&\rBHS|^~\\&\r"+msgA+"BTS\rFTS||"+y+"\r")
		// Empty ends are not written, and take no room.
		f.Head[0].Fields = append(f.Head[0].Fields, api.Field{}, field(""), field("", ""))
		writes(t, "FHS with empty ends", f, "FHS|^~\\&|"+x+"\rBHS|^~\\&\r"+msgA+"BTS\rFTS\r")
	}
}

func TestP2002Counts(t *testing.T) {
	for _, c := range counts1 {
		m, err := tree.Parse([]byte(head + "\rBTS" + c.rest))
		if err != nil {
			t.Fatal(err)
		}
		b := headed(msgA, msgB, msgA)
		b.Tail = m.Segs[1:]
		f := filed(headed(msgA), b)
		g := filed(headed(msgA), headed(msgA, msgB), headed(msgA))
		g.Tail = []api.Seg{{Name: "FTS", Fields: m.Segs[1].Fields}}
		if !c.taken {
			refusesFile(t, "BTS"+c.rest, f, no(api.ErrCount, 1))
			refusesFile(t, "BTS alone"+c.rest, api.File{Batches: f.Batches[1:]}, no(api.ErrCount, 0))
			refusesFile(t, "FTS"+c.rest, g, no(api.ErrCount, -1))
			g.Batches[2].Tail = seg("BTS", "7")
			refusesFile(t, "BTS ahead of FTS"+c.rest, g, no(api.ErrCount, 2))
			continue
		}
		form, _ := tree.Print(m)
		tail := strings.Split(string(form), "\r")[1] + "\r"
		writes(t, "BTS"+c.rest, f, textsOf("FHS|^~\\&\rBHS|^~\\&\r", msgA, "BTS\rBHS|^~\\&\r", msgA, msgB, msgA, tail, "FTS\r"))
		writes(t, "FTS"+c.rest, g, textsOf("FHS|^~\\&\rBHS|^~\\&\r", msgA, "BTS\rBHS|^~\\&\r", msgA, msgB, "BTS\rBHS|^~\\&\r", msgA, "BTS\r", "F"+tail[1:]))
	}
	// Fields that are not normal: what they say counts.
	f := filed(headed(msgA))
	for _, one := range []api.Field{field("1", "", ""), {Reps: []api.Rep{{Comps: []api.Comp{{Subs: []string{"1", ""}}}}, {}}}, {}, field(""), field("", "")} {
		f.Tail[0].Fields = []api.Field{one, {}}
		f.Batches[0].Tail[0].Fields = []api.Field{one}
		if prints(t, f) != api.OK {
			t.Errorf("P2002: %v is refused", one)
		}
	}
	for _, one := range []api.Field{field("", "1"), field("1", "1"), {Reps: []api.Rep{{}, {Comps: []api.Comp{{Subs: []string{"1"}}}}}}, {Reps: []api.Rep{{Comps: []api.Comp{{Subs: []string{"", "1"}}}}}}} {
		f.Batches[0].Tail[0].Fields = nil
		f.Tail[0].Fields = []api.Field{one, {}}
		refusesFile(t, "FTS", f, no(api.ErrCount, -1))
		f.Batches[0].Tail[0].Fields = []api.Field{one}
		refusesFile(t, "BTS", f, no(api.ErrCount, 0))
	}
}

func textsOf(parts ...string) string { return strings.Join(parts, "") }

// TestP2002OneForm: each part as layer 6 writes it, in order, as far as it is there.
func TestP2002OneForm(t *testing.T) {
	f := api.File{
		Head: []api.Seg{{Name: "FHS", Fields: []api.Field{field("LAB", "1", ""), {}, {Reps: []api.Rep{{Comps: []api.Comp{{Subs: []string{"a", "b"}}}}, {}, {Comps: []api.Comp{{Subs: []string{"c", ""}}}}}}, {}}}},
		Batches: []api.Batch{
			{Head: seg("BHS", "", "x", ""), Messages: []string{msgA + "PID|1\r", msgB}, Tail: seg("BTS", "2", "")},
			{Head: seg("BHS", "\\F\\"), Messages: []string{msgB}, Tail: seg("BTS", "", "", "z")},
		},
		Tail: seg("FTS", "2", "w"),
	}
	writes(t, "all parts", f, "FHS|^~\\&|LAB^1||a&b~~c\rBHS|^~\\&||x\r"+msgA+"PID|1\r"+msgB+"BTS|2\rBHS|^~\\&|\\F\\\r"+msgB+"BTS|||z\rFTS|2|w\r")
	writes(t, "one batch", api.File{Batches: f.Batches[:1]}, "BHS|^~\\&||x\r"+msgA+"PID|1\r"+msgB+"BTS|2\r")
	writes(t, "messages", bare(msgB, msgA, msgB), msgB+msgA+msgB)
}

func TestP2002MaxFile(t *testing.T) {
	enough := bare(longList(mostFile)...)
	if text, err := Print(enough); err != nil || text != longFile(mostFile) {
		t.Errorf("P2002: MaxFile bytes: %v", err)
	}
	refusesFile(t, "MaxFile + 1", bare(longList(mostFile+1)...), no(api.ErrLong, 0))
	refusesFile(t, "two of MaxFile", bare(slices.Repeat([]string{longMessage(8192)}, 256)...), no(api.ErrLong, 0))
	for _, more := range []int{0, 1} {
		// What the heads and the trailers take: 9, 9, 4, 4.
		f := filed(headed(longList(mostFile - 26 + more)...))
		g := api.File{Batches: []api.Batch{headed(longList(mostFile - 13 + more)...)}}
		if more > 0 {
			refusesFile(t, "with heads", f, no(api.ErrLong, 0))
			refusesFile(t, "with a head", g, no(api.ErrLong, 0))
			f.Tail = seg("FTS", "2")
			refusesFile(t, "behind all others", f, no(api.ErrCount, -1))
			g.Batches[0].Head = seg("BHS", "\t")
			refusesFile(t, "behind all others", g, no(api.ErrForm, 0))
		} else if prints(t, f) != api.OK || prints(t, g) != api.OK {
			t.Error("P2002: MaxFile bytes with heads")
		}
	}
}

// someFields makes fields of which most may be, with empty ones among them; number is what a trailer should say.
func someFields(r *rand.Rand, number int, wrong int) []api.Field {
	var list []api.Field
	if number > 0 && r.IntN(3) > 0 {
		list = append(list, pick(r, []api.Field{field(fmt.Sprint(number)), field(fmt.Sprint(number), ""), {}, field("")}))
		if r.IntN(100) < wrong {
			list[0] = pick(r, []api.Field{field(fmt.Sprint(number + 1)), field(fmt.Sprintf("0%d", number)), field("1", "1"), field("\\X31\\")})
		}
	}
	if number > 0 && len(list) == 0 {
		return nil
	}
	for range r.IntN(4) {
		list = append(list, pick(r, []api.Field{{}, field("x"), field("a", "", "b"), field("", ""), {Reps: []api.Rep{{}, {Comps: []api.Comp{{Subs: []string{"c", "d", ""}}}}}}}))
		if r.IntN(100) < wrong {
			list[len(list)-1] = pick(r, []api.Field{field("\t"), field("#"), field("|"), {Reps: make([]api.Rep, 33)}})
		}
	}
	return list
}

// someSeg makes a head or a tail of that name, or something like it.
func someSeg(r *rand.Rand, name string, number int, wrong int) []api.Seg {
	if r.IntN(100) < wrong {
		name = pick(r, []string{"FHS", "BHS", "BTS", "FTS", "MSH", "PID", ""})
	}
	one := api.Seg{Name: name, Fields: someFields(r, number, wrong)}
	switch {
	case r.IntN(100) >= wrong:
		return []api.Seg{one}
	case r.IntN(2) == 0:
		return []api.Seg{one, one}
	}
	return nil
}

// someFile makes a file; wrong is how many of a hundred parts are wrong.
func someFile(r *rand.Rand, wrong int) api.File {
	five := pick(r, []string{"|^~\\&", "|^~\\&", "#$%!?"})
	forms := []string{"", five[:1] + "A", five[:1] + "B" + five[1:2] + "x\rPID", five[:1] + five[:1] + "C\rPID" + five[:1] + "1\rOBX", "\rZZ1"}
	var f api.File
	n := 1
	withHead := r.IntN(2) == 0
	if withHead {
		n = 1 + r.IntN(4)
	}
	if r.IntN(100) < wrong {
		n = r.IntN(4)
	}
	for range n {
		b := api.Batch{}
		for range 1 + r.IntN(4) {
			m := "MSH" + five + pick(r, forms) + "\r"
			if r.IntN(100) < wrong {
				m = pick(r, []string{pick(r, noForms), msgA, "MSH!\"#$%\r"})
			}
			b.Messages = append(b.Messages, m)
		}
		if r.IntN(100) < wrong {
			b.Messages = nil
		}
		if withHead && r.IntN(100) >= wrong || r.IntN(2) == 0 {
			b.Head, b.Tail = someSeg(r, "BHS", 0, wrong), someSeg(r, "BTS", len(b.Messages), wrong)
		}
		f.Batches = append(f.Batches, b)
	}
	if withHead {
		f.Head, f.Tail = someSeg(r, "FHS", 0, wrong), someSeg(r, "FTS", n, wrong)
	}
	return f
}

func TestP2002Random(t *testing.T) {
	r := rand.New(rand.NewPCG(20, 3))
	met := map[api.Errno]int{}
	for range 30000 {
		f := someFile(r, r.IntN(10))
		code := prints(t, f)
		met[code]++
		if code == api.OK {
			text, _ := Print(f)
			back, err := Parse(text)
			if err != nil || shape(back) != shape(normalFile(f)) {
				t.Fatalf("P2006: Parse(Print(%s)): %s, %v", shape(f), shape(back), err)
			}
		}
	}
	for _, code := range []api.Errno{api.OK, api.ErrFile, api.ErrMark, api.ErrForm, api.ErrCount} {
		if met[code] < 100 {
			t.Errorf("the number %d came %d times", code, met[code])
		}
	}
}
