package setup

import (
	"strings"

	"courier/api"
)

// refusal is what reading gives up with: why the line that is read cannot stand there.
type refusal api.Errno

func giveUp(code api.Errno) { panic(refusal(code)) }

// need gives up, where something is not so.
func need(ok bool, code api.Errno) {
	if !ok {
		giveUp(code)
	}
}

// reader goes over a text's lines.
type reader struct {
	made    api.Setup
	rest    string // what is not read
	line    int    // the number of the line that is read
	sides   int    // how many have begun
	ended   bool   // structures has stood
	missing int    // how many rows must stand ahead of the next side, or of structures, and have not

	// rows take the lines that may stand here, by their first words. A word that is not there is one of no row, or of one that is not allowed.
	rows map[string]func(words []word)
}

// lines reads all lines but the profile's.
func (r *reader) lines() {
	r.begin(headRows(&r.made))
	for r.rest != "" && !r.ended {
		var line string
		line, r.rest, _ = strings.Cut(r.rest, "\n")
		r.line++
		r.take(split(line))
	}
	if !r.ended {
		r.line++
		giveUp(api.ErrMissing)
	}
}

func (r *reader) take(words []word) {
	if len(words) == 0 {
		return
	}
	row, ok := r.rows[words[0].text]
	need(ok && !words[0].quoted, api.ErrLine)
	row(words)
}

// begin allows the rows of the head, or of a side.
func (r *reader) begin(rows []row) {
	r.rows = map[string]func(words []word){"side": r.side}
	for _, x := range rows {
		r.rows[x.name] = func(words []word) { r.say(x, words) }
		if x.must {
			r.missing++
		}
	}
}

// say takes the line of a row that says one thing.
func (r *reader) say(x row, words []word) {
	need(len(words) == 2 && x.read(words[1]), api.ErrLine)
	// From now on its words are not looked at.
	r.rows[x.name] = func([]word) { giveUp(api.ErrTwice) }
	if x.must {
		r.missing--
	}
}

// side takes the lines side a and side b. They are two rows: what has stood says nothing of a line that is neither.
func (r *reader) side(words []word) {
	need(len(words) == 2 && len(words[1].text) == 1, api.ErrLine)
	which := strings.Index(sideNames, words[1].text)
	need(0 <= which && which <= r.sides, api.ErrLine)
	need(which == r.sides, api.ErrTwice)
	need(r.missing == 0, api.ErrMissing)
	r.sides++
	s := &r.made.Sides[which]
	s.Marks = common
	r.begin(sideRows(s))
	if r.sides == len(sideNames) {
		r.rows["structures"] = r.structures
	}
}

func (r *reader) structures(words []word) {
	need(len(words) == 1, api.ErrLine)
	need(r.missing == 0, api.ErrMissing)
	r.made.Profile = r.rest
	r.ended = true
}
