package batch

import (
	"errors"
	"fmt"
	"math/rand/v2"
	"reflect"
	"regexp"
	"slices"
	"strconv"
	"strings"
	"testing"

	"courier/api"
	"courier/esc"
	"courier/tree"
)

// The chapter a second time: all faults of a text, or of a file, are looked for by themselves, and the one that the chapter names first is told.

const (
	head = "MSH|^~\\&"
	msgA = head + "|A\r"
	msgB = head + "|B\r"
)

// The chapter's bounds, by their numbers.
const (
	mostFile     = 1048576
	mostBatches  = 64
	mostMessages = 256
	mostMessage  = 8192
)

var usual = marksOf("|^~\\&")
var other = marksOf("#$%!?")

func marksOf(five string) api.Marks {
	return api.Marks{Field: five[0], Comp: five[1], Rep: five[2], Esc: five[3], Sub: five[4]}
}

func fiveOf(m api.Marks) string { return string([]byte{m.Field, m.Comp, m.Rep, m.Esc, m.Sub}) }

func pick[E any](r *rand.Rand, list []E) E { return list[r.IntN(len(list))] }

// shape tells a file as a text in which nil and empty lists are the same, and nothing else is.
func shape(f api.File) string {
	s := segShapes(f.Head)
	for _, b := range f.Batches {
		s += "batch " + segShapes(b.Head) + fmt.Sprintf("%q", b.Messages) + segShapes(b.Tail) + "\n"
	}
	return s + segShapes(f.Tail)
}

func segShapes(list []api.Seg) string {
	s := "["
	for _, seg := range list {
		s += fmt.Sprintf("%q", seg.Name)
		for _, f := range seg.Fields {
			s += " {"
			for _, r := range f.Reps {
				s += "("
				for _, c := range r.Comps {
					s += fmt.Sprintf("%q", c.Subs)
				}
				s += ")"
			}
			s += "}"
		}
		s += ";"
	}
	return s + "]\n"
}

// innermost is the number at the end of a chain of faults.
func innermost(f *api.Fault) api.Errno {
	for f.Under != nil {
		f = f.Under.(*api.Fault)
	}
	return f.Code
}

// isFault holds an error against the fault that it must be, all of it.
func isFault(err error, want *api.Fault) bool {
	if want == nil || err == nil {
		return want == nil && err == nil
	}
	f, ok := err.(*api.Fault)
	if !ok || f == nil || f.Layer != "batch" || f.At != want.At || f.Code != want.Code || !reflect.DeepEqual(f.Under, want.Under) {
		return false
	}
	var outer *api.Fault
	return errors.As(err, &outer) && outer == f && errors.Is(err, innermost(want))
}

func no(code api.Errno, at int) *api.Fault { return &api.Fault{Code: code, At: at} }

// below is layer 6's refusal of a text, as this layer has it.
func below(at int, text string) *api.Fault {
	_, err := tree.Parse([]byte(text))
	var f *api.Fault
	if !errors.As(err, &f) {
		return nil
	}
	return &api.Fault{Code: f.Code, At: at, Under: err}
}

// found is a fault with its turn: which of several comes first.
type found struct {
	turn  []int
	fault *api.Fault
}

type finds []found

// add puts a fault, if it is one, to the others.
func (l *finds) add(f *api.Fault, turn ...int) {
	if f != nil {
		*l = append(*l, found{turn, f})
	}
}

func (l *finds) when(wrong bool, code api.Errno, at int, turn ...int) {
	if wrong {
		l.add(no(code, at), turn...)
	}
}

func (l finds) first() *api.Fault {
	if len(l) == 0 {
		return nil
	}
	return slices.MinFunc(l, func(a, b found) int { return slices.Compare(a.turn, b.turn) }).fault
}

// cut gives a text's segments with their CRs, one letter for the kind of each, and the place of each (and of the end).
func cut(text string) (segs []string, kinds string, places []int) {
	if text != "" && text[len(text)-1] != '\r' {
		text += "\r"
	}
	at := 0
	for _, s := range strings.SplitAfter(text, "\r") {
		places = append(places, at)
		at += len(s)
		if s == "" {
			break
		}
		segs = append(segs, s)
		kind := "i"
		for letter, name := range map[string]string{"F": "FHS", "B": "BHS", "M": "MSH", "T": "BTS", "Z": "FTS"} {
			if strings.HasPrefix(s, name) {
				kind = letter
			}
		}
		kinds += kind
	}
	return segs, kinds, places
}

var fileForm = regexp.MustCompile(`^(Mi*)+$|^B(Mi*)+T$|^F(B(Mi*)+T)+Z$`)

// goesOn tells whether kinds can be the beginning of a file.
func goesOn(kinds string) bool {
	return slices.ContainsFunc([]string{"", "M", "T", "Z", "MT", "TZ", "MTZ", "BMTZ"}, func(more string) bool {
		return fileForm.MatchString(kinds + more)
	})
}

// misplaced is the number of the first segment that cannot stand there; the number of all, if the text ends too early; -1: none.
func misplaced(kinds string) int {
	for i := range kinds {
		// Behind an inner segment that can stand another one can, too.
		if !strings.HasSuffix(kinds[:i+1], "ii") && !goesOn(kinds[:i+1]) {
			return i
		}
	}
	if !fileForm.MatchString(kinds) {
		return len(kinds)
	}
	return -1
}

// endOf is the number of the segment, or of the end, ahead of which the message ends that begins with segment i.
func endOf(kinds string, i int) int {
	behind := kinds[i+1:]
	return len(kinds) - len(strings.TrimLeft(behind, "i"))
}

// counted tells whether a trailer's text, as layer 6 reads it, counts right.
func counted(m api.Message, n int) bool {
	text, _ := tree.Print(m)
	_, field, _ := strings.Cut(strings.TrimSuffix(strings.Split(string(text), "\r")[1], "\r"), fiveOf(m.Marks)[:1])
	field, _, _ = strings.Cut(field, fiveOf(m.Marks)[:1])
	return field == "" || field == fmt.Sprint(n)
}

// modelParse tells a text's file, or its first fault.
func modelParse(text string) (api.File, *api.Fault) {
	if len(text) > mostFile {
		return api.File{}, no(api.ErrLong, 0)
	}
	segs, kinds, places := cut(text)
	places[len(segs)] = len(text)
	marks, known := api.Marks{}, false
	if len(segs) > 0 {
		k, err := esc.Read(segs[0])
		marks, known = k, err == nil
	}
	var l finds
	if at := misplaced(kinds); at >= 0 {
		l.add(no(api.ErrOrder, places[at]), at, 1)
	}
	for i, s := range segs {
		at, n := places[i], strings.Count(kinds[:i+1], kinds[i:i+1])
		switch kinds[i] {
		case 'F', 'B':
			l.when(kinds[i] == 'B' && n > mostBatches, api.ErrMany, at, i, 2)
			l.add(below(at, "MSH"+s[3:]), i, 3)
			k, err := esc.Read(s)
			l.when(err == nil && known && k != marks, api.ErrMark, at, i, 4)
		case 'T', 'Z':
			made := "MSH" + fiveOf(marks) + "\r" + s
			l.add(below(at, made), i, 3)
			inside := strings.Count(kinds[:i], "B")
			if kinds[i] == 'T' {
				inside = strings.Count(kinds[strings.LastIndex(kinds[:i], "B")+1:i], "M")
			}
			m, err := tree.Parse([]byte(made))
			l.when(err == nil && !counted(m, inside), api.ErrCount, at, i, 4)
		case 'M':
			l.when(n > mostMessages, api.ErrMany, at, i, 2)
			end := endOf(kinds, i)
			l.add(below(at, strings.Join(segs[i:end], "")), end, 0, 0)
			k, err := esc.Read(s)
			l.when(err == nil && known && k != marks, api.ErrMark, at, end, 0, 1)
		}
	}
	if f := l.first(); f != nil {
		return api.File{}, f
	}
	return modelFile(segs, kinds, marks), nil
}

// modelFile puts together what is right.
func modelFile(segs []string, kinds string, k api.Marks) api.File {
	var f api.File
	whole := api.Batch{}
	for i, s := range segs {
		headed, _ := tree.Parse([]byte("MSH" + s[3:]))
		behind, _ := tree.Parse([]byte("MSH" + fiveOf(k) + "\r" + s))
		switch kinds[i] {
		case 'F':
			f.Head = []api.Seg{{Name: "FHS", Fields: headed.Segs[0].Fields}}
		case 'B':
			whole.Head = []api.Seg{{Name: "BHS", Fields: headed.Segs[0].Fields}}
		case 'M':
			m, _ := tree.Parse([]byte(strings.Join(segs[i:endOf(kinds, i)], "")))
			form, _ := tree.Print(m)
			whole.Messages = append(whole.Messages, string(form))
		case 'T':
			whole.Tail = behind.Segs[1:]
			f.Batches = append(f.Batches, whole)
			whole = api.Batch{}
		case 'Z':
			f.Tail = behind.Segs[1:]
		}
	}
	if whole.Messages != nil {
		f.Batches = append(f.Batches, whole)
	}
	return f
}

// reads holds Parse against the model, and tells the model's number.
func reads(t *testing.T, text string) api.Errno {
	t.Helper()
	want, fault := modelParse(text)
	f, err := Parse(text)
	if !isFault(err, fault) {
		t.Fatalf("P2001: Parse(%.300q): %v, want %v", text, err, fault)
	}
	if shape(f) != shape(want) {
		t.Fatalf("P2001: Parse(%.300q): %s, want %s", text, shape(f), shape(want))
	}
	if fault != nil {
		return fault.Code
	}
	return api.OK
}

// asWritten writes a segment as it stands, empty ends too.
func asWritten(k api.Marks, s api.Seg) string {
	text := s.Name
	if s.Name == "FHS" || s.Name == "BHS" {
		text += fiveOf(k)
	}
	for _, f := range s.Fields {
		var reps []string
		for _, r := range f.Reps {
			var comps []string
			for _, c := range r.Comps {
				comps = append(comps, strings.Join(c.Subs, fiveOf(k)[4:]))
			}
			reps = append(reps, strings.Join(comps, fiveOf(k)[1:2]))
		}
		text += fiveOf(k)[:1] + strings.Join(reps, fiveOf(k)[2:3])
	}
	return text + "\r"
}

// readable reads a head or a trailer back from its text; false: it isn't read as what it was.
func readable(k api.Marks, s api.Seg) (api.Seg, bool) {
	normal := tree.Normal(api.Message{Marks: k, Segs: []api.Seg{s}}).Segs[0]
	text := asWritten(k, s)
	read := api.Seg{Name: s.Name}
	if s.Name == "FHS" || s.Name == "BHS" {
		m, err := tree.Parse([]byte("MSH" + text[3:]))
		if err != nil || len(m.Segs) != 1 {
			return api.Seg{}, false
		}
		read.Fields = m.Segs[0].Fields
	} else {
		m, err := tree.Parse([]byte("MSH" + fiveOf(k) + "\r" + text))
		if err != nil || len(m.Segs) != 2 {
			return api.Seg{}, false
		}
		read = m.Segs[1]
	}
	return normal, segShapes([]api.Seg{normal}) == segShapes([]api.Seg{read})
}

// isTrouble tells whether a head and a tail are neither none nor one each of these names.
func isTrouble(head, tail []api.Seg, names string) bool {
	text := ""
	for _, s := range head {
		text += s.Name + "<"
	}
	for _, s := range tail {
		text += ">" + s.Name
	}
	return text != "" && text != names
}

// standing are the marks of a message that is as a file carries it.
func standing(text string) (api.Marks, bool) {
	m, err := tree.Parse([]byte(text))
	if err != nil {
		return api.Marks{}, false
	}
	form, err := tree.Print(m)
	carries := !regexp.MustCompile(`\r(FHS|BHS|BTS|FTS)`).MatchString(text)
	return m.Marks, err == nil && string(form) == text && carries
}

// envelope looks at a head and a tail under marks, and writes the part that they enclose.
func (l *finds) envelope(k api.Marks, head, tail []api.Seg, inside string, count int, at int, turn int) string {
	if len(head) == 0 || len(tail) == 0 {
		return inside
	}
	h, ok := readable(k, head[0])
	z, ok2 := readable(k, tail[0])
	l.when(!ok || !ok2, api.ErrForm, at, turn, 3)
	l.when(ok2 && len(z.Fields) > 0 && len(z.Fields[0].Reps) > 0 && asWritten(k, api.Seg{Fields: z.Fields[:1]}) != fiveOf(k)[:1]+strconv.Itoa(count)+"\r", api.ErrCount, at, turn, 4)
	return asWritten(k, h) + inside + asWritten(k, z)
}

// modelPrint tells a file's text, or its first fault. (Not where a head or a tail is written in more than MaxMessage bytes, and could be in fewer.)
func modelPrint(f api.File) (string, *api.Fault) {
	var l finds
	l.when(isTrouble(f.Head, f.Tail, "FHS<>FTS") || len(f.Batches) == 0 || len(f.Head) == 0 && len(f.Batches) > 1, api.ErrFile, -1, 0)
	l.when(len(f.Batches) > mostBatches, api.ErrMany, -1, 1)
	var marks api.Marks
	if len(f.Batches) > 0 && len(f.Batches[0].Messages) > 0 {
		marks, _ = standing(f.Batches[0].Messages[0])
	}
	inside, count := "", 0
	for i, b := range f.Batches {
		turn := 2 + i
		l.when(isTrouble(b.Head, b.Tail, "BHS<>BTS") || len(f.Head) > 0 && len(b.Head) == 0 || len(b.Messages) == 0, api.ErrFile, i, turn, 0)
		for _, text := range b.Messages {
			k, ok := standing(text)
			l.when(!ok, api.ErrFile, i, turn, 0)
			l.when(k != marks, api.ErrMark, i, turn, 2)
		}
		count += len(b.Messages)
		l.when(count > mostMessages, api.ErrMany, i, turn, 1)
		inside += l.envelope(marks, b.Head, b.Tail, strings.Join(b.Messages, ""), len(b.Messages), i, turn)
	}
	turn := 2 + len(f.Batches)
	text := l.envelope(marks, f.Head, f.Tail, inside, len(f.Batches), -1, turn)
	l.when(len(text) > mostFile, api.ErrLong, 0, turn+1)
	if f := l.first(); f != nil {
		return "", f
	}
	return text, nil
}

// prints holds Print against the model, and tells the model's number.
func prints(t *testing.T, f api.File) api.Errno {
	t.Helper()
	want, fault := modelPrint(f)
	text, err := Print(f)
	if !isFault(err, fault) {
		t.Fatalf("P2002: Print of %.2000s: %v, want %v", shape(f), err, fault)
	}
	if text != want {
		t.Fatalf("P2002: Print of %.2000s: %.300q, want %.300q", shape(f), text, want)
	}
	if fault != nil {
		return fault.Code
	}
	return api.OK
}

// refuses holds that Parse and Split refuse a text so, and tell nothing else.
func refuses(t *testing.T, text string, want *api.Fault) {
	t.Helper()
	f, err := Parse(text)
	if !isFault(err, want) || !reflect.DeepEqual(f, api.File{}) {
		t.Errorf("P2001: Parse(%.300q): %s, %v, want %v", text, shape(f), err, want)
	}
	l, err := Split(text)
	if !isFault(err, want) || len(l) != 0 {
		t.Errorf("P2003: Split(%.300q): %q, %v, want %v", text, l, err, want)
	}
	if len(text) < mostFile/4 {
		reads(t, text)
	}
}

// says holds that a text is read as this file, and split into its messages.
func says(t *testing.T, text string, want api.File) {
	t.Helper()
	f, err := Parse(text)
	if err != nil || shape(f) != shape(want) {
		t.Errorf("P2001: Parse(%.300q): %s, %v, want %s", text, shape(f), err, shape(want))
	}
	var all []string
	for _, b := range want.Batches {
		all = append(all, b.Messages...)
	}
	l, err := Split(text)
	if err != nil || !slices.Equal(l, all) {
		t.Errorf("P2003: Split(%.300q): %q, %v, want %q", text, l, err, all)
	}
}

// field is one with these subcomponents, in components of their own.
func field(comps ...string) api.Field {
	var r api.Rep
	for _, text := range comps {
		r.Comps = append(r.Comps, api.Comp{Subs: []string{text}})
	}
	return api.Field{Reps: []api.Rep{r}}
}

// seg is a segment, in a list, whose fields are texts.
func seg(name string, texts ...string) []api.Seg {
	s := api.Seg{Name: name}
	for _, text := range texts {
		f := api.Field{}
		if text != "" {
			f = field(text)
		}
		s.Fields = append(s.Fields, f)
	}
	return []api.Seg{s}
}

// bare is a file of one batch without heads.
func bare(messages ...string) api.File {
	return api.File{Batches: []api.Batch{{Messages: messages}}}
}

// headed is a batch with a head and a trailer without fields.
func headed(messages ...string) api.Batch {
	return api.Batch{Head: seg("BHS"), Messages: messages, Tail: seg("BTS")}
}

// filed is a file with heads and trailers without fields.
func filed(batches ...api.Batch) api.File {
	return api.File{Head: seg("FHS"), Batches: batches, Tail: seg("FTS")}
}
