package audit

import (
	"bytes"
	"cmp"
	"slices"

	"courier/api"
)

// compareLists orders what may be seen; lists that are the same to it are the same to all.
func compareLists(a, b []api.Seen) int { return slices.CompareFunc(a, b, compareSeen) }

func compareSeen(a, b api.Seen) int {
	return cmp.Or(
		cmp.Compare(a.Kind, b.Kind),
		cmp.Compare(a.Side, b.Side),
		bytes.Compare(a.Text, b.Text),
		cmp.Compare(a.Control, b.Control),
		cmp.Compare(a.Number, b.Number),
		compareFlags(a.Again, b.Again),
		cmp.Compare(a.State, b.State),
		cmp.Compare(a.Code, b.Code),
		slices.CompareFunc(a.Errors, b.Errors, compareFindings),
		cmp.Compare(a.Errno, b.Errno),
	)
}

func compareFindings(a, b api.Finding) int {
	return cmp.Or(
		cmp.Compare(a.Code, b.Code),
		cmp.Compare(a.Seg, b.Seg),
		cmp.Compare(a.Occur, b.Occur),
		cmp.Compare(a.Field, b.Field),
		cmp.Compare(a.Rep, b.Rep),
		cmp.Compare(a.Comp, b.Comp),
		cmp.Compare(a.Sub, b.Sub),
	)
}

func compareFlags(a, b bool) int {
	switch {
	case a == b:
		return 0
	case b:
		return -1
	}
	return 1
}

// copiedList gives a list that shares no memory with anybody.
func copiedList(list []api.Seen) []api.Seen {
	fresh := slices.Clone(list)
	for i := range fresh {
		fresh[i].Text = bytes.Clone(fresh[i].Text)
		fresh[i].Errors = slices.Clone(fresh[i].Errors)
	}
	return fresh
}
