package world

import "courier/api"

// pen goes through a line, place by place: a reader puts into what is handed in what stands there, a writer puts it there. So the order of a line's places is told once.
type pen interface {
	number(n *int, least, most int) bool
	word(text *string) bool
	option(text *string) bool // a word; - where it is empty
	choice(which *int, words ...string) bool
	bytes(p *[]byte) bool
	findings(list *[]api.Finding) bool
}

// none stands for an empty word.
const none = "-"

// maxFinding is the greatest number of a finding.
const maxFinding = 999

// finding is a place of seven words.
func finding(p pen, f *api.Finding) bool {
	number := func(n *int) bool { return p.number(n, 0, maxFinding) }
	return number(&f.Code) && p.option(&f.Seg) && number(&f.Occur) && number(&f.Field) &&
		number(&f.Rep) && number(&f.Comp) && number(&f.Sub)
}
