package types

import (
	"slices"

	"courier/api"
	"courier/esc"
)

// finder gathers the flaws of a value, one component behind the other.
type finder struct {
	marks api.Marks
	comp  int // where it stands, from 1 on
	flaws []api.Flaw
}

func (f *finder) tell(sub, code int) {
	f.flaws = append(f.flaws, api.Flaw{Comp: f.comp, Sub: sub, Code: code})
}

func (f *finder) value(parts []part, r api.Rep) {
	for c := range max(len(parts), len(r.Comps)) {
		f.comp = c + 1
		switch {
		case isEmpty(subs(r, c)):
			if c < len(parts) && parts[c].must {
				f.tell(0, api.FlawMissing)
			}
		case c >= len(parts):
			f.tell(0, api.FlawType)
			return
		default:
			f.component(parts[c].kind, subs(r, c))
		}
	}
}

func (f *finder) component(kind string, list []string) {
	if p, ok := primitiveOf(kind); ok {
		f.single(p, list)
		return
	}
	parts := partsOf(kind)
	for s := range max(len(parts), len(list)) {
		switch {
		case s >= len(list) || list[s] == "":
			if s < len(parts) && parts[s].must {
				f.tell(s+1, api.FlawMissing)
			}
		case s >= len(parts):
			f.tell(s+1, api.FlawType)
			return
		default:
			p, _ := primitiveOf(parts[s].kind)
			f.sub(p, s+1, list[s])
		}
	}
}

// single looks at a component of which only the first subcomponent has a meaning: what stands behind it is its one flaw.
func (f *finder) single(p primitive, list []string) {
	for s, wire := range list {
		if s > 0 && wire != "" {
			f.tell(s+1, api.FlawType)
			return
		}
	}
	f.sub(p, 1, list[0])
}

func (f *finder) sub(p primitive, s int, wire string) {
	if code := flaw(f.marks, p, wire); code != 0 {
		f.tell(s, code)
	}
}

// flaw is the flaw of a subcomponent, 0 for none.
func flaw(m api.Marks, p primitive, wire string) int {
	if wire == "" || wire == null {
		return 0
	}
	pieces, err := esc.Split(m, wire)
	if err != nil || slices.ContainsFunc(pieces, func(piece api.Piece) bool { return !p.piece(piece) }) {
		return api.FlawType
	}
	switch p.judge(plain(m, wire)) {
	case api.ErrType:
		return api.FlawType
	case api.ErrValue:
		return api.FlawTable
	}
	return 0
}

// plain is the plain text of a subcomponent that layer 5 takes, or of the null, which it may not take.
func plain(m api.Marks, wire string) string {
	if wire == null {
		return null
	}
	text, _ := esc.Unescape(m, wire)
	return text
}

// subs are the subcomponents of a component, none where there is no such one.
func subs(r api.Rep, c int) []string {
	if c >= len(r.Comps) {
		return nil
	}
	return r.Comps[c].Subs
}

func isEmpty(list []string) bool {
	return !slices.ContainsFunc(list, func(wire string) bool { return wire != "" })
}

func isEmptyRep(r api.Rep) bool {
	return !slices.ContainsFunc(r.Comps, func(c api.Comp) bool { return !isEmpty(c.Subs) })
}

func tooMany(r api.Rep) bool {
	return len(r.Comps) > api.MaxComps ||
		slices.ContainsFunc(r.Comps, func(c api.Comp) bool { return len(c.Subs) > api.MaxSubs })
}
