package ledger

import (
	"courier/api"
	"courier/inbox"
	"courier/outbox"
	"courier/seq"
)

// The tables by the numbers with which a fault tells them.
const (
	tableNext = 1 + iota
	tableExpects
	tableLast
	tableReset
	tableOut
	tableIn
)

func areRight(t api.Terms) bool { return isWithin(t.Keep, 1, api.MaxKeep) }

func beginning(t api.Terms) api.Tables {
	return api.Tables{Next: only(t.Sends, 1), Expects: only(t.Takes, 1)}
}

// wrongTable tells the first table that may not be; 0: all may.
func wrongTable(t api.Terms, x api.Tables) int {
	switch {
	case !isWithin(x.Next, 0, only(t.Sends, api.MaxNumber)):
		return tableNext
	case !isWithin(x.Expects, 0, only(t.Takes, api.MaxNumber+1)):
		return tableExpects
	case !mayBeLast(t, x):
		return tableLast
	case x.Reset != "" && !(t.Takes && isControl(x.Reset)):
		return tableReset
	case !mayBeOut(t, x.Out):
		return tableOut
	case !mayBeIn(t, x.In):
		return tableIn
	}
	return 0
}

func mayBeLast(t api.Terms, x api.Tables) bool {
	if !t.Takes {
		return x.Last == 0
	}
	_, err := seq.NewReceiver(x.Expects, x.Last)
	return err == nil
}

func mayBeOut(t api.Terms, list []api.Out) bool {
	_, err := outbox.Load(list, t.Sends, api.MaxTries)
	return err == nil
}

func mayBeIn(t api.Terms, list []api.InEntry) bool {
	_, err := inbox.Load(t.Keep, api.MaxIn, list)
	return err == nil
}

// only gives the number where the terms ask for it, else 0.
func only(asked bool, n int) int {
	if asked {
		return n
	}
	return 0
}

func isWithin(n, least, most int) bool { return n >= least && n <= most }

// copied gives tables that share no memory with anybody.
func copied(x api.Tables) api.Tables {
	out, in := x.Out, x.In
	x.Out, x.In = make([]api.Out, len(out)), make([]api.InEntry, len(in))
	for i, o := range out {
		o.Text = fresh(o.Text)
		x.Out[i] = o
	}
	for i, e := range in {
		e.Text, e.Commit, e.Answer = fresh(e.Text), fresh(e.Commit), fresh(e.Answer)
		x.In[i] = e
	}
	return x
}

// fresh gives new memory; of nothing it is nil, however that was handed in, so that the two can't be told apart.
func fresh(b []byte) []byte { return append([]byte(nil), b...) }
