package ledger

import (
	"slices"

	"courier/api"
	"courier/decide"
	"courier/inbox"
	"courier/outbox"
	"courier/seq"
)

// commitAccept is the code by which a message is noted.
const commitAccept = "CA"

// effect tells what a record makes of tables, and whether it may follow them. It is asked for records that are written well and tables that may be; what it makes shares the memory of the tables that it leaves alone, and changes none of it.
type effect func(t api.Terms, x api.Tables, r api.Record) (api.Tables, bool)

// effects stand by the kind of their record.
func effects() [api.RecOpen + 1]effect {
	return [api.RecOpen + 1]effect{
		api.RecOut:     submitted,
		api.RecNumber:  numbered,
		api.RecCommit:  noted,
		api.RecFinal:   settled,
		api.RecIn:      accepted,
		api.RecVerdict: judged,
		api.RecNext:    moved,
		api.RecOpen:    opened,
	}
}

// behind gives the tables behind a record, of tables that may be.
func behind(t api.Terms, x api.Tables, r api.Record) (api.Tables, error) {
	if at := wrongField(r); at != 0 {
		return api.Tables{}, fault(at, api.ErrBook)
	}
	next, may := effects()[r.Kind](t, x, r)
	if !may {
		return api.Tables{}, fault(0, api.ErrBook)
	}
	return next, nil
}

// replayed gives the tables that a log tells.
func replayed(t api.Terms, found api.Replay) (api.Tables, error) {
	x, err := Unpack(t, found.Snapshot)
	if err != nil {
		return api.Tables{}, err
	}
	for i, b := range found.Records {
		r, err := Decode(b)
		if err == nil {
			x, err = behind(t, x, r)
		}
		if err != nil {
			return api.Tables{}, fault(i+1, api.ErrBook)
		}
	}
	return x, nil
}

func submitted(t api.Terms, x api.Tables, r api.Record) (api.Tables, bool) {
	box, err := outbox.Load(x.Out, t.Sends, api.MaxTries)
	if err != nil || box.Add(r.Control, r.Text, r.Cond) != nil {
		return x, false
	}
	x.Out = outs(box)
	return x, true
}

func numbered(t api.Terms, x api.Tables, r api.Record) (api.Tables, bool) {
	if placeOf(x.Out, r.Control) != 0 {
		return x, false
	}
	box, err := outbox.Load(x.Out, t.Sends, api.MaxTries)
	if err != nil || box.Give(r.Number) != nil {
		return x, false
	}
	x.Out, x.Next = outs(box), following(r.Number)
	return x, true
}

func noted(t api.Terms, x api.Tables, r api.Record) (api.Tables, bool) {
	at := placeOf(x.Out, r.Control)
	if at < 0 || x.Out[at].Noted || !mayCome(x.Out[at], commitAccept) {
		return x, false
	}
	x.Out = slices.Clone(x.Out)
	x.Out[at].Noted = true
	return x, true
}

func settled(t api.Terms, x api.Tables, r api.Record) (api.Tables, bool) {
	at := placeOf(x.Out, r.Control)
	if at < 0 || t.Sends && at > 0 {
		return x, false
	}
	if r.State == api.WantAnswered && !mayCome(x.Out[at], r.Code) {
		return x, false
	}
	x.Out = slices.Delete(slices.Clone(x.Out), at, at+1)
	return x, true
}

func accepted(t api.Terms, x api.Tables, r api.Record) (api.Tables, bool) {
	if !t.Takes && r.Number != 0 {
		return x, false
	}
	if t.Takes {
		receiver, err := seq.NewReceiver(x.Expects, x.Last)
		if err != nil || receiver.Accept(r.Number) != nil {
			return x, false
		}
		x.Expects, x.Last = receiver.Expects(), receiver.Last()
	}
	box, err := inbox.Load(t.Keep, api.MaxIn, x.In)
	e := api.InEntry{Control: r.Control, Text: r.Text, Number: r.Number, Tick: r.Tick, Commit: r.Commit}
	if err != nil || box.Accept(e) != nil {
		return x, false
	}
	x.In = box.List()
	return x, true
}

func judged(t api.Terms, x api.Tables, r api.Record) (api.Tables, bool) {
	box, err := inbox.Load(t.Keep, api.MaxIn, x.In)
	if err == nil {
		_, err = box.Decide(r.Control, r.Code, r.Answer)
	}
	if err != nil {
		return x, false
	}
	x.In = box.List()
	return x, true
}

func moved(t api.Terms, x api.Tables, r api.Record) (api.Tables, bool) {
	if !t.Sends || slices.ContainsFunc(x.Out, hasNumber) {
		return x, false
	}
	x.Next = r.Number
	return x, true
}

func opened(t api.Terms, x api.Tables, r api.Record) (api.Tables, bool) {
	if !t.Takes || r.Control == x.Reset {
		return x, false
	}
	x.Expects, x.Last, x.Reset = 0, 0, r.Control
	return x, true
}

// following is what a sender has next, once it has given that number: 0 behind the greatest. It is asked for numbers alone, which no sender refuses.
func following(n int) int {
	sender, _ := seq.NewSender(n)
	_, _ = sender.Take()
	return sender.Next()
}

// outs tells a box's messages as they are durable.
func outs(box *outbox.Box) []api.Out {
	sent := box.List()
	list := make([]api.Out, len(sent))
	for i, s := range sent {
		list[i] = s.Out
	}
	return list
}

// placeOf is -1, where no message has the control id.
func placeOf(list []api.Out, control string) int {
	return slices.IndexFunc(list, func(o api.Out) bool { return o.Control == control })
}

func hasNumber(o api.Out) bool { return o.Number != 0 }

func mayCome(o api.Out, code string) bool {
	may, err := decide.May(o.Cond, code)
	return err == nil && may
}
