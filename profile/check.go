package profile

import (
	"slices"

	"courier/api"
	"courier/esc"
	"courier/types"
)

// The codes of findings.
const (
	badOrder = 100
	missing  = 101
	badType  = 102
	noValue  = 103
)

const null = `""`

// firstField is the number of the first field of a segment's list: MSH-1 and MSH-2 are the marks.
func firstField(name string) int {
	if name == msh {
		return 3
	}
	return 1
}

func lastField(name string) int { return firstField(name) + api.MaxFields - 1 }

// checker holds a message, in normal form, against a profile.
type checker struct {
	profile *Profile
	message api.Message
	name    string // of the segment that is looked at
	occur   int
	found   []api.Finding
}

// tell gathers a finding in the segment that is looked at: its code, and of Field, Rep, Comp and Sub as many as it tells.
func (c *checker) tell(code int, numbers ...int) {
	if len(c.found) == api.MaxErrors {
		return
	}
	var told [4]int
	copy(told[:], numbers)
	c.found = append(c.found, api.Finding{
		Code: code, Seg: c.name, Occur: c.occur,
		Field: told[0], Rep: told[1], Comp: told[2], Sub: told[3],
	})
}

// order looks at which segment follows which. Where the message ends too early no segment is looked at, and none is told.
func (c *checker) order(which int) {
	var names []string
	for _, s := range c.message.Segs {
		names = append(names, s.Name)
	}
	at, ok := c.profile.Fits(which, names)
	if ok {
		return
	}
	if at < len(names) {
		c.name = names[at]
		c.occur = count(names[:at+1], names[at])
	}
	c.tell(badOrder)
}

func count(names []string, name string) int {
	n := 0
	for _, s := range names {
		if s == name {
			n++
		}
	}
	return n
}

func (c *checker) segments() {
	met := map[string]int{}
	for _, s := range c.message.Segs {
		met[s.Name]++
		if rules, ok := c.profile.segs[s.Name]; ok {
			c.name, c.occur = s.Name, met[s.Name]
			c.fields(rules, s)
		}
	}
}

func (c *checker) fields(rules segment, s api.Seg) {
	strange := false
	first := firstField(s.Name)
	for field := first; field <= lastField(s.Name); field++ {
		var f api.Field
		if field-first < len(s.Fields) {
			f = s.Fields[field-first]
		}
		if r, ok := rules[field]; ok {
			c.field(r, field, f)
		} else if len(f.Reps) > 0 && !strange {
			strange = true
			c.tell(badType, field)
		}
	}
}

func (c *checker) field(r rule, field int, f api.Field) {
	switch {
	case len(f.Reps) == 0:
		if r.use == "R" {
			c.tell(missing, field)
		}
	case r.use == "X":
		c.tell(badType, field)
	default:
		for i, rep := range f.Reps {
			if len(rep.Comps) > 0 {
				c.repetition(r, field, i+1, rep)
			}
		}
	}
}

func (c *checker) repetition(r rule, field, n int, rep api.Rep) {
	if n > r.reps || r.size > 0 && wireSize(rep) > r.size {
		c.tell(badType, field, n)
		return
	}
	// No error: layer 6 has looked at the marks and the counts, and the kind was known when it was read.
	flaws, _ := types.Check(c.message.Marks, r.kind, rep)
	for _, f := range flaws {
		c.tell(f.Code, field, n, f.Comp, f.Sub)
	}
	if len(flaws) == 0 && r.in != "" && !c.isValue(r.in, rep) {
		c.tell(noValue, field, n, 1, 1)
	}
}

// isValue tells whether a repetition is the null alone, or begins with a value of the table.
func (c *checker) isValue(number string, rep api.Rep) bool {
	first := rep.Comps[0].Subs
	if len(first) == 0 {
		return false
	}
	if len(rep.Comps) == 1 && len(first) == 1 && first[0] == null {
		return true
	}
	plain, _ := esc.Unescape(c.message.Marks, first[0])
	_, ok := slices.BinarySearch(c.profile.tables[number].codes, plain)
	return ok
}

// wireSize counts the bytes on the wire of a repetition that isn't empty: its subs, and the marks between each two.
func wireSize(rep api.Rep) int {
	size := len(rep.Comps) - 1
	for _, comp := range rep.Comps {
		size += max(0, len(comp.Subs)-1)
		for _, sub := range comp.Subs {
			size += len(sub)
		}
	}
	return size
}
