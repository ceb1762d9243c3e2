package profile

import (
	"slices"

	"courier/api"
	"courier/types"
)

// reader goes over a text's words from the left. The empty word at their end is right nowhere, so that no reading goes on behind it.
type reader struct {
	words []word
	made  *Profile
	items int // of the message that is read
}

func (r *reader) look() string { return r.words[0].text }

func (r *reader) take() word {
	w := r.words[0]
	r.words = r.words[1:]
	return w
}

// want takes a word, which must be of its form.
func (r *reader) want(right func(text string) bool) (word, error) {
	w := r.take()
	if !right(w.text) {
		return word{}, fault(w.at, api.ErrWord)
	}
	return w, nil
}

func (r *reader) expect(sign string) error {
	_, err := r.want(func(text string) bool { return text == sign })
	return err
}

func (r *reader) number(least, most int) (int, error) {
	w := r.take()
	n, ok := number(w.text, least, most)
	if !ok {
		return 0, fault(w.at, api.ErrWord)
	}
	return n, nil
}

func (r *reader) definition() error {
	w := r.take()
	switch w.text {
	case "table":
		return r.table(w.at)
	case "segment":
		return r.segment(w.at)
	case "message":
		return r.message(w.at)
	}
	return fault(w.at, api.ErrWord)
}

func (r *reader) table(begin int) error {
	if len(r.made.tables) == api.MaxTables {
		return fault(begin, api.ErrMany)
	}
	number, err := r.want(isTable)
	if err != nil {
		return err
	}
	if _, ok := r.made.tables[number.text]; ok {
		return fault(number.at, api.ErrTwice)
	}
	if err := r.expect("="); err != nil {
		return err
	}
	codes, err := r.codes()
	if err != nil {
		return err
	}
	r.made.tables[number.text] = table{codes}
	return r.expect(";")
}

// codes reads a table's codes, one at least, and tells them rising.
func (r *reader) codes() ([]string, error) {
	var list []string
	for len(list) == 0 || r.look() != ";" {
		code, err := r.want(isCode)
		if err != nil {
			return nil, err
		}
		i, ok := slices.BinarySearch(list, code.text)
		switch {
		case ok:
			return nil, fault(code.at, api.ErrTwice)
		case len(list) == api.MaxCodes:
			return nil, fault(code.at, api.ErrMany)
		}
		list = slices.Insert(list, i, code.text)
	}
	return list, nil
}

func (r *reader) segment(begin int) error {
	if len(r.made.segs) == api.MaxSegDefs {
		return fault(begin, api.ErrMany)
	}
	name, err := r.want(isSeg)
	if err != nil {
		return err
	}
	if _, ok := r.made.segs[name.text]; ok {
		return fault(name.at, api.ErrTwice)
	}
	if err := r.expect("="); err != nil {
		return err
	}
	rules, err := r.rules(firstField(name.text), lastField(name.text))
	if err != nil {
		return err
	}
	r.made.segs[name.text] = rules
	return r.expect("end")
}

// rules reads a segment's fields, whose numbers rise.
func (r *reader) rules(least, most int) (segment, error) {
	rules := segment{}
	for r.look() != "end" {
		field, err := r.number(least, most)
		if err != nil {
			return nil, err
		}
		said, err := r.rule()
		if err != nil {
			return nil, err
		}
		rules[field] = said
		least = field + 1
	}
	return rules, nil
}

// rule reads what stands behind a field's number.
func (r *reader) rule() (rule, error) {
	kind, err := r.want(types.Known)
	if err != nil {
		return rule{}, err
	}
	use, err := r.want(isUse)
	if err != nil {
		return rule{}, err
	}
	reps, err := r.count("max", api.MaxReps, 1)
	if err != nil {
		return rule{}, err
	}
	size, err := r.count("len", api.MaxMessage, 0)
	if err != nil {
		return rule{}, err
	}
	in, err := r.in()
	if err != nil {
		return rule{}, err
	}
	return rule{kind.text, use.text, reps, size, in}, r.expect(";")
}

// count reads a count, if the word stands there that tells it; else it is what it is where it isn't said.
func (r *reader) count(name string, most, unsaid int) (int, error) {
	if r.look() != name {
		return unsaid, nil
	}
	r.take()
	return r.number(1, most)
}

func (r *reader) in() (string, error) {
	if r.look() != "in" {
		return "", nil
	}
	r.take()
	number, err := r.want(isTable)
	if err != nil {
		return "", err
	}
	if _, ok := r.made.tables[number.text]; !ok {
		return "", fault(number.at, api.ErrNoTable)
	}
	return number.text, nil
}

func (r *reader) message(begin int) error {
	if len(r.made.messages) == api.MaxStructs {
		return fault(begin, api.ErrMany)
	}
	head, err := r.head()
	if err != nil {
		return err
	}
	if slices.Contains(r.made.Structs(), head) {
		return fault(begin, api.ErrTwice)
	}
	body := r.words
	r.items = 0
	items, err := r.group(0)
	if err != nil {
		return err
	}
	if err := r.expect("end"); err != nil {
		return err
	}
	if !isHeaded(body[:len(body)-len(r.words)]) {
		return fault(begin, api.ErrNoMSHFirst)
	}
	r.made.messages = append(r.made.messages, message{head, items})
	return nil
}

func (r *reader) head() (api.Struct, error) {
	var codes [3]string
	for i := range codes {
		if i == 2 && r.look() == "=" {
			break
		}
		code, err := r.want(isCode)
		if err != nil {
			return api.Struct{}, err
		}
		codes[i] = code.text
	}
	return api.Struct{Code: codes[0], Event: codes[1], Structure: codes[2]}, r.expect("=")
}

// isHeaded tells whether a message's words begin with MSH, and have it nowhere else.
func isHeaded(body []word) bool {
	isMSH := func(w word) bool { return w.text == msh }
	return isMSH(body[0]) && !slices.ContainsFunc(body[1:], isMSH)
}

// group reads as many items as there are. What closes it is left to its caller.
func (r *reader) group(nest int) (group, error) {
	var items group
	for isOpening(r.look()) || isSeg(r.look()) && !isLocal(r.look()) {
		it, err := r.item(nest)
		if err != nil {
			return nil, err
		}
		items = append(items, it)
	}
	return items, nil
}

func isOpening(text string) bool { return text == "[" || text == "{" || text == "<" }

func (r *reader) item(nest int) (item, error) {
	w := r.take()
	if r.items == api.MaxItems || isOpening(w.text) && nest == api.MaxNest {
		return nil, fault(w.at, api.ErrMany)
	}
	r.items++
	at := place(r.items)
	switch w.text {
	case "[":
		items, err := r.closed(nest+1, "]")
		return &option{at, items}, err
	case "{":
		items, err := r.closed(nest+1, "}")
		if err == nil && items.empty() {
			err = fault(w.at, api.ErrEmptyRep)
		}
		return &repeat{at, items}, err
	case "<":
		groups, err := r.groups(nest + 1)
		return &choice{at, groups, slices.ContainsFunc(groups, group.empty)}, err
	}
	return &single{at, w.text}, nil
}

func (r *reader) closed(nest int, sign string) (group, error) {
	items, err := r.group(nest)
	if err != nil {
		return nil, err
	}
	return items, r.expect(sign)
}

// groups reads two groups or more, up to the word that closes them.
func (r *reader) groups(nest int) ([]group, error) {
	first, err := r.closed(nest, "|")
	if err != nil {
		return nil, err
	}
	list := []group{first}
	for {
		items, err := r.group(nest)
		if err != nil {
			return nil, err
		}
		list = append(list, items)
		if r.look() != "|" {
			return list, r.expect(">")
		}
		r.take()
	}
}
