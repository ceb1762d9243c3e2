package profile

import (
	"errors"
	"fmt"
	"math/rand"
	"regexp"
	"slices"
	"strconv"
	"strings"
	"testing"

	"courier/api"
)

// The model of Parse: the words by patterns, the grammar as a machine that takes one word after the other and has a stack of brackets.

var (
	wordForm  = regexp.MustCompile(`#[^\n]*|[=;\[\]{}<>|]|[^ \t\r\n=;\[\]{}<>|#]+`)
	alienForm = regexp.MustCompile(`[^ -~\t\r\n]`)
	tableForm = regexp.MustCompile(`\A[0-9]{4}\z`)
	codeForm  = regexp.MustCompile(`\A[0-9A-Za-z_.-]{1,20}\z`)
	nameForm  = regexp.MustCompile(`\A[A-Z][0-9A-Z]{2}\z`)
	countForm = regexp.MustCompile(`\A[1-9][0-9]{0,4}\z`)
)

var allKinds = strings.Fields("ST TX FT NM SI ID IS DT TM TS ID0003 ID0008 ID0061 ID0076 ID0103 ID0104 ID0155 ID0357 ID0516 HD EI CE CWE MSG PT VID ERL CX FN XPN PL")

// said is a field's rule; 0 and empty where it isn't said.
type said struct {
	place     int
	kind, use string
	max, len  int
	in        string
}

// told is what a text says.
type told struct {
	tables map[string][]string
	segs   map[string][]said
	heads  []api.Struct
	bodies [][]string
}

// refusal is an error's number and place.
type refusal struct {
	code api.Errno
	at   int
}

type frame struct {
	sign      string
	at        int
	void      bool // the group so far may be empty
	otherVoid bool // a group ahead of it may
	groups    int
}

type machine struct {
	told
	state  string
	begin  int
	name   string
	codes  []string
	fields []said
	body   []string
	frames []frame
	items  int
}

// modelParse tells what a text says, or its refusal.
func modelParse(text string) (told, *refusal) {
	if len(text) > 32768 {
		return told{}, &refusal{api.ErrLong, 0}
	}
	// By bytes: a pattern takes several of them for one.
	for i := range len(text) {
		if text[i] >= 0x80 || alienForm.MatchString(text[i:i+1]) {
			return told{}, &refusal{api.ErrWord, i}
		}
	}
	m := &machine{told: told{tables: map[string][]string{}, segs: map[string][]said{}}, state: "top"}
	for _, span := range wordForm.FindAllStringIndex(text, -1) {
		w := text[span[0]:span[1]]
		if w[0] == '#' {
			continue
		}
		if r := m.word(w, span[0]); r != nil {
			return told{}, r
		}
	}
	if m.state != "top" {
		return told{}, &refusal{api.ErrWord, len(text)}
	}
	return m.told, nil
}

func isCODE(w string) bool {
	return codeForm.MatchString(w) && !slices.Contains([]string{"end", "table", "segment", "message"}, w)
}

func (m *machine) word(w string, at int) *refusal {
	no := func(code api.Errno) *refusal { return &refusal{code, at} }
	switch m.state {
	case "top":
		switch {
		case w == "table" && len(m.tables) == 64, w == "segment" && len(m.segs) == 128, w == "message" && len(m.heads) == 64:
			return no(api.ErrMany)
		case w == "table", w == "segment", w == "message":
			m.state, m.begin, m.codes, m.fields = w, at, nil, nil
			return nil
		}
	case "table":
		if tableForm.MatchString(w) {
			if m.tables[w] != nil {
				return no(api.ErrTwice)
			}
			m.name, m.state = w, "table ="
			return nil
		}
	case "table =":
		if w == "=" {
			m.state = "codes"
			return nil
		}
	case "codes":
		if w == ";" && len(m.codes) > 0 {
			m.tables[m.name], m.state = m.codes, "top"
			return nil
		}
		if isCODE(w) {
			if slices.Contains(m.codes, w) {
				return no(api.ErrTwice)
			}
			if len(m.codes) == 256 {
				return no(api.ErrMany)
			}
			m.codes = append(m.codes, w)
			return nil
		}
	case "segment":
		if nameForm.MatchString(w) {
			if _, ok := m.segs[w]; ok {
				return no(api.ErrTwice)
			}
			m.name, m.state = w, "segment ="
			return nil
		}
	case "segment =":
		if w == "=" {
			m.state = "place"
			return nil
		}
	case "message":
		if w == "=" && len(m.codes) >= 2 {
			return m.equals(at)
		}
		if isCODE(w) && len(m.codes) < 3 {
			m.codes = append(m.codes, w)
			return nil
		}
	case "items":
		return m.item(w, at)
	default:
		return m.field(w, at)
	}
	return no(api.ErrWord)
}

// field takes a word of a segment's fields.
func (m *machine) field(w string, at int) *refusal {
	no := func(code api.Errno) *refusal { return &refusal{code, at} }
	count := 0
	if countForm.MatchString(w) {
		count, _ = strconv.Atoi(w)
	}
	var f *said
	if n := len(m.fields); n > 0 {
		f = &m.fields[n-1]
	}
	switch m.state {
	case "place":
		least, most := 1, 64
		if m.name == "MSH" {
			least, most = 3, 66
		}
		if f != nil {
			least = f.place + 1
		}
		switch {
		case w == "end":
			m.segs[m.name], m.state = m.fields, "top"
			return nil
		case least <= count && count <= most:
			m.fields, m.state = append(m.fields, said{place: count}), "kind"
			return nil
		}
	case "kind":
		if slices.Contains(allKinds, w) {
			f.kind, m.state = w, "use"
			return nil
		}
	case "use":
		if w == "R" || w == "O" || w == "X" {
			f.use, m.state = w, "behind use"
			return nil
		}
	case "behind use", "behind max", "behind len", "behind in":
		step := slices.Index([]string{"behind use", "behind max", "behind len", "behind in"}, m.state)
		word := slices.Index([]string{"max", "len", "in"}, w)
		switch {
		case w == ";":
			m.state = "place"
			return nil
		case word >= step:
			m.state = w
			return nil
		}
	case "max":
		if 1 <= count && count <= 32 {
			f.max, m.state = count, "behind max"
			return nil
		}
	case "len":
		if 1 <= count && count <= 8192 {
			f.len, m.state = count, "behind len"
			return nil
		}
	case "in":
		if tableForm.MatchString(w) {
			if m.tables[w] == nil {
				return no(api.ErrNoTable)
			}
			f.in, m.state = w, "behind in"
			return nil
		}
	}
	return no(api.ErrWord)
}

// equals ends a message's head.
func (m *machine) equals(at int) *refusal {
	codes := append(slices.Clone(m.codes), "")
	head := api.Struct{Code: codes[0], Event: codes[1], Structure: codes[2]}
	if slices.Contains(m.heads, head) {
		return &refusal{api.ErrTwice, m.begin}
	}
	m.heads = append(m.heads, head)
	m.state, m.body, m.items = "items", nil, 0
	m.frames = []frame{{sign: "end", at: at, void: true}}
	return nil
}

func (m *machine) item(w string, at int) *refusal {
	top := &m.frames[len(m.frames)-1]
	opens := strings.Contains("[{<", w)
	isSeg := nameForm.MatchString(w) && w[0] != 'Z'
	switch {
	case !opens && !isSeg:
		return m.close(w, at, top)
	case m.items == 512, opens && len(m.frames) == 17:
		return &refusal{api.ErrMany, at}
	case opens:
		m.frames = append(m.frames, frame{sign: w, at: at, void: true})
	default:
		top.void = false
	}
	m.items++
	m.body = append(m.body, w)
	return nil
}

func (m *machine) close(w string, at int, top *frame) *refusal {
	void := false
	switch w + top.sign {
	case "|<":
		top.otherVoid, top.void = top.otherVoid || top.void, true
		top.groups++
		m.body = append(m.body, w)
		return nil
	case "][":
		void = true
	case "}{":
		if top.void {
			return &refusal{api.ErrEmptyRep, top.at}
		}
	case "><":
		if top.groups == 0 {
			return &refusal{api.ErrWord, at}
		}
		void = top.otherVoid || top.void
	case "endend":
		n := 0
		for _, w := range m.body {
			if w == "MSH" {
				n++
			}
		}
		if n != 1 || m.body[0] != "MSH" {
			return &refusal{api.ErrNoMSHFirst, m.begin}
		}
		m.bodies, m.state = append(m.bodies, m.body), "top"
		return nil
	default:
		return &refusal{api.ErrWord, at}
	}
	m.body = append(m.body, w)
	m.frames = m.frames[:len(m.frames)-1]
	m.frames[len(m.frames)-1].void = m.frames[len(m.frames)-1].void && void
	return nil
}

// print is the one form of what is told.
func (m told) print() string {
	var lines []string
	for number, codes := range m.tables {
		codes = slices.Clone(codes)
		slices.Sort(codes)
		lines = append(lines, "table "+number+" = "+strings.Join(codes, " ")+" ;")
	}
	slices.Sort(lines)
	for _, name := range m.names() {
		lines = append(lines, "segment "+name+" =")
		for _, f := range m.segs[name] {
			line := fmt.Sprintf("  %d %s %s", f.place, f.kind, f.use)
			if f.max > 1 {
				line += fmt.Sprintf(" max %d", f.max)
			}
			if f.len != 0 {
				line += fmt.Sprintf(" len %d", f.len)
			}
			if f.in != "" {
				line += " in " + f.in
			}
			lines = append(lines, line+" ;")
		}
		lines = append(lines, "end")
	}
	for i, h := range m.heads {
		line := "message " + h.Code + " " + h.Event
		if h.Structure != "" {
			line += " " + h.Structure
		}
		lines = append(lines, line+" = "+strings.Join(m.bodies[i], " ")+" end")
	}
	if len(lines) == 0 {
		return ""
	}
	return strings.Join(lines, "\n") + "\n"
}

// names are those of the segments, rising.
func (m told) names() []string {
	var list []string
	for name := range m.segs {
		list = append(list, name)
	}
	slices.Sort(list)
	return list
}

// faultOf is an error as a fault of the layer, with nothing under it.
func faultOf(t *testing.T, err error) refusal {
	t.Helper()
	var f *api.Fault
	if !errors.As(err, &f) || f.Layer != "profile" || f.Under != nil || !errors.Is(err, f.Code) {
		t.Fatalf("not a fault of the layer with nothing under it: %v", err)
	}
	return refusal{f.Code, f.At}
}

// holds holds Parse, Print, Structs and Segs of a text against the model.
func holds(t *testing.T, text string) bool {
	t.Helper()
	want, no := modelParse(text)
	p, err := Parse(text)
	if no != nil {
		if p != nil || err == nil {
			t.Fatalf("Parse(%.300q) is taken, want %v at %d", text, no.code, no.at)
		}
		if got := faultOf(t, err); got != *no {
			t.Fatalf("Parse(%.300q): %v, want %v at %d", text, err, no.code, no.at)
		}
		return false
	}
	if p == nil || err != nil {
		t.Fatalf("Parse(%.300q): %v, want none", text, err)
	}
	says(t, p, want)
	return true
}

// says holds what a profile tells against the model.
func says(t *testing.T, p *Profile, want told) {
	t.Helper()
	if got := p.Print(); got != want.print() {
		t.Fatalf("Print: %.600q, want %.600q", got, want.print())
	}
	if got := p.Structs(); !slices.Equal(got, want.heads) {
		t.Fatalf("Structs: %v, want %v", got, want.heads)
	}
	if got := p.Segs(); !slices.Equal(got, want.names()) {
		t.Fatalf("Segs: %v, want %v", got, want.names())
	}
}

func pick[T any](rnd *rand.Rand, list []T) T { return list[rnd.Intn(len(list))] }

// randomGroup is a group's words: as many items as fit, and brackets up to nest deep.
func randomGroup(rnd *rand.Rand, names []string, most, nest int) []string {
	var words []string
	for range rnd.Intn(most + 1) {
		kind := rnd.Intn(8)
		if nest == 0 || kind < 4 {
			words = append(words, pick(rnd, names))
			continue
		}
		inner := randomGroup(rnd, names, most, nest-1)
		switch kind {
		case 4, 5:
			words = slices.Concat(words, []string{"["}, inner, []string{"]"})
		case 6:
			if rnd.Intn(40) > 0 {
				inner = append(inner, pick(rnd, names))
			}
			words = slices.Concat(words, []string{"{"}, inner, []string{"}"})
		default:
			words = slices.Concat(words, []string{"<"}, inner)
			for range 1 + rnd.Intn(2) {
				words = append(append(words, "|"), randomGroup(rnd, names, most, nest-1)...)
			}
			words = append(words, ">")
		}
	}
	return words
}

// randomField is a field's words ahead of the ; that ends it.
func randomField(rnd *rand.Rand, place int, tables []string) []string {
	words := []string{strconv.Itoa(place), pick(rnd, allKinds), pick(rnd, []string{"R", "O", "O", "O", "X"})}
	if rnd.Intn(3) == 0 {
		words = append(words, "max", strconv.Itoa(1+rnd.Intn(4)))
	}
	if rnd.Intn(3) == 0 {
		words = append(words, "len", strconv.Itoa(1+rnd.Intn(12)))
	}
	switch {
	case rnd.Intn(50) == 0:
		words = append(words, "in", "0099")
	case rnd.Intn(3) == 0 && len(tables) > 0:
		words = append(words, "in", pick(rnd, tables))
	}
	return words
}

// randomWords are the words of a text, most of them right.
func randomWords(rnd *rand.Rand) []string {
	var words, tables []string
	for range rnd.Intn(8) {
		switch rnd.Intn(4) {
		case 0:
			number := fmt.Sprintf("%04d", rnd.Intn(40))
			words = append(words, "table", number, "=")
			for range 1 + rnd.Intn(4) {
				words = append(words, pick(rnd, randomCodes))
			}
			words = append(words, ";")
			tables = append(tables, number)
		case 1:
			name := pick(rnd, []string{"MSH", "PID", "NK1", "ZAB", "OBX", "EVN", "A00", "ZZZ"})
			words = append(words, "segment", name, "=")
			for place := firstField(name) + rnd.Intn(3); place < 40; place += 1 + rnd.Intn(20) {
				words = append(append(words, randomField(rnd, place, tables)...), ";")
			}
			words = append(words, "end")
		default:
			words = append(words, "message", pick(rnd, []string{"ADT", "ORU", "A"}), pick(rnd, []string{"A01", "A02", "-"}))
			if rnd.Intn(2) == 0 {
				words = append(words, pick(rnd, []string{"ADT_A01", "x"}))
			}
			words = append(words, "=", "MSH")
			words = append(append(words, randomGroup(rnd, []string{"PID", "NK1", "OBX"}, 3, 3)...), "end")
		}
	}
	return words
}

var randomCodes = []string{"A", "B", "a", "b", "0", "F", "M", "max", "len", "in", "_", ".", "-", "2.5.1", "ENDS", "end.", "R"}

// disturb changes one word or two.
func disturb(rnd *rand.Rand, words []string) []string {
	others := append(strings.Fields("end table segment message = ; [ ] { } < > | 1 0 01 33 65 66 67 8193 R O X max len in 0001 00 00001 MSH PID ZAB pid PI PIDX ST XX MSG ! @ \" ADT"), randomCodes...)
	words = slices.Clone(words)
	for range 1 + rnd.Intn(2) {
		if len(words) == 0 {
			break
		}
		i := rnd.Intn(len(words))
		switch rnd.Intn(5) {
		case 0:
			words = slices.Delete(words, i, i+1)
		case 1:
			words = slices.Insert(words, i, pick(rnd, others))
		case 2:
			words[i] = pick(rnd, others)
		case 3:
			words = slices.Insert(words, i, words[i])
		default:
			words = words[:i]
		}
	}
	return words
}

// joined puts blanks and comments between words, or nothing where one of two words stands by itself.
func joined(rnd *rand.Rand, words []string) string {
	var b strings.Builder
	blank := func() string {
		return pick(rnd, []string{" ", " ", " ", "\n", "\t", "\r", "\r\n", "  ", " # end ; \n", "#\n", "#}\r=\n", "##|\n"})
	}
	for i, w := range words {
		loose := len(w) == 1 && strings.Contains("=;[]{}<>|", w)
		before := i > 0 && len(words[i-1]) == 1 && strings.Contains("=;[]{}<>|", words[i-1])
		if i > 0 && !(loose || before) || rnd.Intn(3) == 0 {
			b.WriteString(blank())
		}
		b.WriteString(w)
	}
	if rnd.Intn(3) == 0 {
		b.WriteString(pick(rnd, []string{" ", "\n", "# the end", "#", "#\n", " # table\r"}))
	}
	return b.String()
}
