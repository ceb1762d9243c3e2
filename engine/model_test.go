package engine

import (
	"fmt"
	"slices"
	"strconv"
	"strings"

	"courier/api"
)

// plainSide is an endpoint once more, told from DOC.md and chapter 18 by plain tables and split texts: no log, no wheel, no tree. It knows messages without escapes under the common marks, in one form.
type plainSide struct {
	setup api.Setup
	side  int
	down  bool
	fuse  int // -1: none
	image api.EngineImage
	since []api.Tables // the tables ahead of each record that is not durable, the oldest first
	log   int          // records behind the snapshot
	probe string       // the link message's text
	out   []api.Seen   // of the step
	last  api.Tables   // when it went down
}

func newPlain(s api.Setup, side int) *plainSide {
	p := &plainSide{setup: s, side: side, fuse: -1}
	if p.own().Sequence {
		p.image.Tables.Next = 1
	}
	if p.other().Sequence {
		p.image.Tables.Expects = 1
	}
	return p
}

func (p *plainSide) own() api.Side   { return p.setup.Sides[p.side] }
func (p *plainSide) other() api.Side { return p.setup.Sides[1-p.side] }

// dying is what a step is left by when the disk dies.
type dying struct{}

// writes pays for a write of the disk.
func (p *plainSide) writes() {
	if p.fuse == 0 {
		panic(dying{})
	}
	if p.fuse > 0 {
		p.fuse--
	}
}

func cloneTables(x api.Tables) api.Tables {
	x.Out, x.In = slices.Clone(x.Out), slices.Clone(x.In)
	return x
}

func (p *plainSide) record(change func(x *api.Tables)) {
	p.writes()
	before := cloneTables(p.image.Tables)
	change(&p.image.Tables)
	p.since = append(p.since, before)
	p.image.Written++
	p.log++
}

func (p *plainSide) sync() {
	p.writes()
	p.since, p.image.Safe = nil, p.image.Written
}

func (p *plainSide) compact() {
	if len(p.since) > 0 {
		p.writes()
		p.since = nil
	}
	for range 4 {
		p.writes()
	}
	p.log, p.image.Safe = 0, p.image.Written
}

func (p *plainSide) tell(s api.Seen) {
	s.Side = p.side
	p.image.Held = append(p.image.Held, api.Held{Seen: s, After: p.image.Written})
}

func (p *plainSide) send(text string) {
	if len(p.image.Held) >= 512 {
		p.image.Counts.Unmade++
		return
	}
	p.tell(api.Seen{Kind: api.SeenOut, Text: framed(text)})
}

func (p *plainSide) leave() {
	for len(p.image.Held) > 0 && p.image.Held[0].After <= p.image.Safe {
		s := p.image.Held[0].Seen
		if s.Kind == api.SeenDeliver {
			p.image.Open = append(p.image.Open, s.Control)
		}
		p.out = append(p.out, s)
		p.image.Held = p.image.Held[1:]
	}
}

// step plays a step that was not refused.
func (p *plainSide) step(ahead bool, work func()) (seen []api.Seen) {
	p.out = nil
	now := p.image.Now
	defer func() {
		if given := recover(); given != nil {
			_ = given.(dying)
			p.down, p.last = true, p.image.Tables
			p.image = api.EngineImage{Now: max(now, p.image.Now)}
			seen = append(p.out, api.Seen{Kind: api.SeenDown, Side: p.side})
		}
	}()
	if ahead && p.log >= p.own().Compact {
		p.compact()
		p.leave()
	}
	work()
	p.leave()
	return p.out
}

// fields of an MSH, by HL7's numbers.
func fieldsOf(text string) []string {
	list := append([]string{"", "|"}, strings.Split(strings.Split(text, "\r")[0], "|")[1:]...)
	return append(list, make([]string, 20)...)
}

func withNumber(text string, n int) string {
	first, rest, _ := strings.Cut(text, "\r")
	f := strings.Split(first, "|")
	for len(f) < 13 {
		f = append(f, "")
	}
	f[12] = ""
	if n != 0 {
		f[12] = strconv.Itoa(n)
	}
	return strings.TrimRight(strings.Join(f, "|"), "|") + "\r" + rest
}

// comes: DOC.md, what can come; it is what is sent, too.
func comes(accept, app, code string) bool {
	if accept+app == "" {
		return code[0] == 'A'
	}
	cond := app
	if code[0] == 'C' {
		cond = accept
	}
	return cond == "AL" || cond == "SU" && code[1] == 'A' || cond == "ER" && code[1] != 'A'
}

func owes(accept, app string) (bool, bool) {
	return accept == "AL" || accept == "SU", accept+app == "" || app == "AL" || app == "SU"
}

func conditionsOf(text string) (string, string) {
	f := fieldsOf(text)
	return f[15], f[16]
}

var conditionNumbers = map[string]int{"": 0, "NE": 0, "AL": 1, "ER": 2, "SU": 3}

func isPlainID(id string) bool {
	return id != "" && len(id) <= 18 && strings.Trim(id, "0123456789ABCDEFGHIJKLMNOPQRSTUVWXYZabcdefghijklmnopqrstuvwxyz.-") == ""
}

// submit takes messages that are right in themselves.
func (p *plainSide) submit(text string) ([]api.Seen, api.Errno) {
	f := fieldsOf(text)
	switch {
	case p.at(f[10]) >= 0 || p.image.Link.Control == f[10]:
		return nil, api.ErrTwice
	case len(p.image.Sent) == 32:
		return nil, api.ErrFull
	case p.own().Sequence && p.image.Tables.Next == 0:
		return nil, api.ErrSpent
	}
	o := api.Out{Control: f[10], Text: []byte(text), Cond: api.Conditions{Enhanced: f[15]+f[16] != "", Accept: conditionNumbers[f[15]], App: conditionNumbers[f[16]]}}
	return p.step(true, func() {
		p.record(func(x *api.Tables) { x.Out = append(x.Out, o) })
		p.image.Sent = append(p.image.Sent, api.Sent{Out: o})
		p.image.Dues = append(p.image.Dues, 0)
		p.turn()
	}), 0
}

func (p *plainSide) at(id string) int {
	return slices.IndexFunc(p.image.Sent, func(s api.Sent) bool { return s.Control == id })
}

func (p *plainSide) turn() {
	for i := 0; i < len(p.image.Sent); i++ {
		s := &p.image.Sent[i]
		if p.own().Sequence && (i > 0 || p.image.Link.Control != "") {
			return
		}
		if s.Under {
			continue
		}
		if p.own().Sequence && s.Number == 0 {
			if p.image.Tables.Next == 0 {
				p.settle(s.Control, 3, "", nil)
				return
			}
			p.number(s.Control, p.image.Tables.Next)
		}
		p.goes(s.Control)
		i = -1
	}
}

func (p *plainSide) number(id string, n int) {
	p.record(func(x *api.Tables) {
		x.Out[0].Number = n
		x.Next = (n + 1) % (top + 1)
	})
	p.image.Sent[p.at(id)].Number = n
}

func (p *plainSide) goes(id string) {
	s := &p.image.Sent[p.at(id)]
	accept, app := conditionsOf(string(s.Text))
	commit, answer := owes(accept, app)
	s.Under, s.Left = true, p.own().Tries
	p.send(withNumber(string(s.Text), s.Number))
	switch {
	case commit && !s.Noted:
		s.State = 1
	case answer:
		s.State = 2
	case app == "ER" || accept == "ER" && !s.Noted:
		s.State = 3
	case s.Noted:
		p.settle(id, 1, "CA", nil)
		return
	default:
		p.settle(id, 2, "", nil)
		return
	}
	p.later(id)
}

func (p *plainSide) soon() int {
	if tick := p.image.Now + p.own().Every; tick <= latest {
		return tick
	}
	return 0
}

func (p *plainSide) later(id string) { p.image.Dues[p.at(id)] = p.soon() }

func (p *plainSide) settle(id string, state int, code string, found []api.Finding) {
	at := p.at(id)
	p.record(func(x *api.Tables) { x.Out = slices.Delete(slices.Clone(x.Out), at, at+1) })
	p.image.Sent = slices.Delete(slices.Clone(p.image.Sent), at, at+1)
	p.image.Dues = slices.Delete(slices.Clone(p.image.Dues), at, at+1)
	p.tell(api.Seen{Kind: api.SeenAnswer, Control: id, State: state, Code: code, Errors: found})
	p.turn()
}

// heard takes acknowledgements that layer 10 reads: their code, MSA-2, MSA-4 (-1: none) and errors.
func (p *plainSide) heard(code, id string, expect int, found []api.Finding) {
	at := p.at(id)
	if id == p.image.Link.Control {
		p.linkHeard(code, expect, found)
		return
	}
	if at < 0 || !p.image.Sent[at].Under {
		p.image.Counts.Strange++
		return
	}
	s := &p.image.Sent[at]
	accept, app := conditionsOf(string(s.Text))
	commit, answer := owes(accept, app)
	byNumber := p.own().Sequence && expect >= 1 && (code == "CE" || code == "AE") && slices.ContainsFunc(found, func(f api.Finding) bool { return f.Code == 207 })
	switch {
	case !comes(accept, app, code), byNumber && (s.Number == expect || commit && s.State != 1):
		p.image.Counts.Strange++
	case code == "CA" && s.State != 1:
	case code == "CA" && (answer || app == "ER"):
		p.record(func(x *api.Tables) { x.Out[at].Noted = true })
		s.Noted = true
		if s.State = 2; !answer {
			s.State = 3
			p.later(id)
		}
	case byNumber && s.Left > 0:
		p.number(id, expect)
		p.send(withNumber(string(s.Text), expect))
		p.later(id)
		s.Left--
	default:
		p.settle(id, 1, code, found)
	}
}

func (p *plainSide) linkHeard(code string, expect int, found []api.Finding) {
	link := p.image.Link
	if code[0] == 'C' {
		p.image.Counts.Strange++
		return
	}
	if link.Reset {
		expect = link.Next
	}
	if code == "AA" && expect >= 1 {
		p.record(func(x *api.Tables) { x.Next = expect })
	}
	p.tell(api.Seen{Kind: api.SeenAnswer, Control: link.Control, State: 1, Code: code, Errors: found})
	p.image.Link = api.LinkWait{}
	p.turn()
}

func (p *plainSide) tick(n int) []api.Seen {
	to := min(p.image.Now+n, latest)
	seen := p.step(true, func() {
		for p.image.Now < to {
			p.image.Now++
			p.ring()
		}
	})
	p.image.Now = to
	return seen
}

// ring lets come what is due now.
func (p *plainSide) ring() {
	var ids []string
	for i, s := range p.image.Sent {
		if p.image.Dues[i] == p.image.Now {
			ids = append(ids, s.Control)
		}
	}
	slices.Sort(ids)
	for _, id := range ids {
		s := &p.image.Sent[p.at(id)]
		switch {
		case s.State == 3:
			p.settle(id, 2, "", nil)
		case s.Left == 0:
			p.settle(id, 3, "", nil)
		default:
			s.Left--
			p.send(withNumber(string(s.Text), s.Number))
			p.later(id)
		}
	}
	link := &p.image.Link
	if link.Control == "" || link.Due != p.image.Now {
		return
	}
	if link.Left == 0 {
		p.tell(api.Seen{Kind: api.SeenAnswer, Control: link.Control, State: 3})
		*link = api.LinkWait{}
		p.turn()
		return
	}
	link.Left--
	p.send(p.probe)
	link.Due = p.soon()
}

// ask is Probe, or Resync with a number.
func (p *plainSide) ask(id string, next int) ([]api.Seen, api.Errno) {
	switch {
	case !isPlainID(id):
		return nil, api.ErrForm
	case !p.own().Sequence:
		return nil, api.ErrOff
	case len(p.image.Sent) > 0 || p.image.Link.Control != "":
		return nil, api.ErrBusy
	}
	return p.step(true, func() {
		p.image.Link = api.LinkWait{Control: id, Reset: next > 0, Next: next, Left: p.own().Tries, Due: p.soon()}
		number := "0"
		if next > 0 {
			number = "-1"
		}
		p.probe = fmt.Sprintf("MSH|^~\\&|%s|%s|%s|%s|%s||QRY^Q01|%s|%s|%s|%s\r", p.own().App, p.own().Facility, p.other().App, p.other().Facility, p.stamp(), id, p.other().Process, p.setup.Version, number)
		p.send(p.probe)
	}), 0
}

// stamp serves for the first hours of a day.
func (p *plainSide) stamp() string {
	n := p.image.Now
	return fmt.Sprintf("%s%02d%02d%02d", p.setup.Start[:8], n/3600, n/60%60, n%60)
}

// reply: the acknowledgement's text; expect below 0: no MSA-4.
func (p *plainSide) reply(text string, enhanced bool, code string, expect int, found []api.Finding) string {
	f := fieldsOf(text)
	kind := "ACK"
	if _, event, _ := strings.Cut(f[9], "^"); event != "" {
		kind = "ACK^" + event + "^ACK"
	}
	out := fmt.Sprintf("MSH|^~\\&|%s|%s|%s|%s|%s||%s|%s|%s|%s", p.own().App, p.own().Facility, f[3], f[4], p.stamp(), kind, code[:1]+f[10], p.own().Process, p.setup.Version)
	if enhanced {
		out += "|||NE|NE"
	}
	out += "\rMSA|" + code + "|" + f[10]
	if expect >= 0 {
		out += "||" + strconv.Itoa(expect)
	}
	out += "\r"
	for _, x := range found {
		place := ""
		for _, n := range []int{x.Occur, x.Field, x.Rep, x.Comp, x.Sub} {
			if n > 0 {
				place += "^" + strconv.Itoa(n)
			}
		}
		out += "ERR||" + x.Seg + place + "|" + strconv.Itoa(x.Code) + "^^HL70357|E\r"
	}
	return out
}

func (p *plainSide) refuse(text string, header bool, expect int, found ...api.Finding) {
	p.image.Counts.Refused++
	accept, app := conditionsOf(text)
	_, known1 := conditionNumbers[accept]
	_, known2 := conditionNumbers[app]
	if !known1 || !known2 {
		accept, app = "", ""
	}
	code := map[bool]string{true: "R", false: "E"}[header]
	enhanced := accept+app != ""
	code = map[bool]string{true: "C", false: "A"}[enhanced] + code
	if comes(accept, app, code) {
		p.send(p.reply(text, enhanced, code, expect, found))
	}
}

func atField(code, field int) api.Finding {
	return api.Finding{Code: code, Seg: "MSH", Occur: 1, Field: field, Rep: 1}
}

// arrive takes messages and link messages, no acknowledgements. What has a tab is no message; NK1 fits no structure.
func (p *plainSide) arrive(text string) {
	f := fieldsOf(text)
	x := &p.image.Tables
	first, _, _ := strings.Cut(text, "\r")
	_, known1 := conditionNumbers[f[15]]
	_, known2 := conditionNumbers[f[16]]
	if broken := strings.Contains(text, "\t"); broken {
		if strings.Contains(first, "\t") || !isPlainID(f[10]) {
			p.image.Counts.Silent++
		} else {
			p.refuse(text, true, -1, atField(100, 1))
		}
		return
	}
	alone := strings.Count(text, "\r") == 1
	if p.other().Sequence && alone && isPlainID(f[10]) && (f[13] == "0" || f[13] == "-1") {
		expect := x.Expects % (top + 1)
		if f[13] == "-1" {
			expect = 0
			if x.Reset != f[10] {
				p.record(func(x *api.Tables) { x.Expects, x.Last, x.Reset = 0, 0, f[10] })
			}
		}
		p.send(p.reply(text, false, "AA", expect, nil))
		return
	}
	switch {
	case !isPlainID(f[10]):
		p.image.Counts.Silent++
		return
	case f[9] != "ADT^A01" && !strings.HasPrefix(f[9], "ADT"):
		p.refuse(text, true, -1, atField(200, 9))
		return
	case f[9] != "ADT^A01":
		p.refuse(text, true, -1, atField(201, 9))
		return
	case f[11] != p.own().Process:
		p.refuse(text, true, -1, atField(202, 11))
		return
	case f[12] != p.setup.Version:
		p.refuse(text, true, -1, atField(203, 12))
		return
	case !known1:
		p.refuse(text, true, -1, atField(103, 15))
		return
	case !known2:
		p.refuse(text, true, -1, atField(103, 16))
		return
	case strings.Contains(text, "\rNK1"):
		p.refuse(text, false, -1, api.Finding{Code: 100, Seg: "NK1", Occur: 1})
		return
	}
	p.accept(text, f)
}

func (p *plainSide) accept(text string, f []string) {
	x := &p.image.Tables
	bare := withNumber(text, 0)
	for _, e := range x.In {
		if e.Control != f[10] {
			continue
		}
		if string(e.Text) != bare {
			p.refuse(text, false, -1, atField(205, 10))
			return
		}
		p.image.Counts.Again++
		for _, b := range [][]byte{e.Commit, e.Answer} {
			if len(b) > 0 {
				p.send(string(b))
			}
		}
		return
	}
	number := 0
	if p.other().Sequence {
		n, err := strconv.Atoi(f[13])
		if err != nil || n < 1 || n > top || f[13][0] == '0' || f[13][0] == '+' {
			p.refuse(text, false, -1, atField(102, 13))
			return
		}
		if x.Expects != 0 && x.Expects != n {
			p.refuse(text, false, x.Expects%(top+1), atField(207, 13))
			return
		}
		number = n
	}
	open := 0
	for _, e := range x.In {
		if e.Code == "" {
			open++
		}
	}
	if open == 32 {
		p.refuse(text, false, -1, atField(207, 1))
		return
	}
	e := api.InEntry{Control: f[10], Text: []byte(bare), Number: number, Tick: p.image.Now}
	if comes(f[15], f[16], "CA") {
		e.Commit = []byte(p.reply(text, true, "CA", -1, nil))
	}
	p.record(func(x *api.Tables) {
		x.In = append(x.In, e)
		if p.other().Sequence {
			x.Expects, x.Last = number+1, number
		}
	})
	if len(e.Commit) > 0 {
		p.send(string(e.Commit))
	}
	p.tell(api.Seen{Kind: api.SeenDeliver, Control: e.Control, Text: e.Text, Number: number})
}

// verdict takes codes and findings that are right.
func (p *plainSide) verdict(id, code string, found []api.Finding) ([]api.Seen, api.Errno) {
	at := slices.Index(p.image.Open, id)
	if at < 0 {
		return nil, api.ErrSide
	}
	return p.step(true, func() {
		place := slices.IndexFunc(p.image.Tables.In, func(e api.InEntry) bool { return e.Control == id })
		e := p.image.Tables.In[place]
		accept, app := conditionsOf(string(e.Text))
		e.Code = code
		if comes(accept, app, code) {
			e.Answer = []byte(p.reply(string(e.Text), accept+app != "", code, -1, found))
		}
		p.record(func(x *api.Tables) {
			x.In[place] = e
			decided, oldest := 0, 0
			for i := len(x.In) - 1; i >= 0; i-- {
				if x.In[i].Code != "" {
					decided++
					oldest = i
				}
			}
			if decided > p.own().Keep+1 {
				x.In = slices.Delete(slices.Clone(x.In), oldest, oldest+1)
			}
		})
		// The compaction ahead may have let out others, behind it.
		p.image.Open = slices.DeleteFunc(slices.Clone(p.image.Open), func(o string) bool { return o == id })
		if len(e.Answer) > 0 {
			p.send(string(e.Answer))
		}
	}), 0
}

// open is a restart: what the disk has are these tables, with so many records behind the snapshot.
func (p *plainSide) open(x api.Tables, log int) []api.Seen {
	p.down, p.fuse, p.since, p.log, p.probe = false, -1, nil, log, ""
	p.image = api.EngineImage{Now: p.image.Now, Tables: cloneTables(x)}
	for _, o := range x.Out {
		p.image.Sent = append(p.image.Sent, api.Sent{Out: o})
		p.image.Dues = append(p.image.Dues, 0)
	}
	return p.step(false, func() {
		p.out = []api.Seen{{Kind: api.SeenUp, Side: p.side}}
		for _, e := range x.In {
			if e.Code == "" {
				p.tell(api.Seen{Kind: api.SeenDeliver, Control: e.Control, Text: e.Text, Number: e.Number, Again: true})
			}
		}
		p.turn()
	})
}

// before is how the tables stand, also those of a side that has gone down with all its records written.
func (p *plainSide) before() api.Tables {
	if p.down {
		return p.last
	}
	return p.image.Tables
}
