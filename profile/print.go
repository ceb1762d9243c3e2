package profile

import (
	"maps"
	"slices"
	"strconv"
	"strings"
)

// spaced puts one blank between each two words. Words that are empty are left out: they are none.
func spaced(words ...string) string {
	var list []string
	for _, w := range words {
		if w != "" {
			list = append(list, w)
		}
	}
	return strings.Join(list, " ")
}

func (t table) line(number string) string {
	return spaced("table", number, "=", spaced(t.codes...), ";") + "\n"
}

func (s segment) lines(name string) string {
	var text strings.Builder
	text.WriteString(spaced("segment", name, "=") + "\n")
	for _, field := range slices.Sorted(maps.Keys(s)) {
		text.WriteString("  " + spaced(strconv.Itoa(field), s[field].text(), ";") + "\n")
	}
	text.WriteString("end\n")
	return text.String()
}

func (r rule) text() string {
	list := []string{r.kind, r.use}
	if r.reps > 1 {
		list = append(list, "max", strconv.Itoa(r.reps))
	}
	if r.size > 0 {
		list = append(list, "len", strconv.Itoa(r.size))
	}
	if r.in != "" {
		list = append(list, "in", r.in)
	}
	return spaced(list...)
}

func (m message) line() string {
	h := m.head
	return spaced("message", h.Code, h.Event, h.Structure, "=", m.items.text(), "end") + "\n"
}
