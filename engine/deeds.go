package engine

import (
	"courier/api"
	"courier/tree"
)

// doing is what is done with an act, and a message of the half to which it belongs.
type doing[M any] struct {
	kind int
	do   func(m M) error
}

func perform[M any](table []doing[M], kind int, m M) error {
	for _, d := range table {
		if d.kind == kind {
			return d.do(m)
		}
	}
	return nil
}

// affair is an outstanding message while deeds are done to it, as it stood ahead of them: with the last of them it may have left the box.
type affair struct {
	api.Sent
	expect int           // the number that the other side has told
	found  []api.Finding // the errors of the acknowledgement that has come
	code   string        // of the act that is done
}

// doings are what is done with the acts of the half that submits.
func (i *initiator) doings() []doing[*affair] {
	return []doing[*affair]{
		{api.ActSend, i.sendOut},
		{api.ActTimer, i.setTimer},
		{api.ActNote, i.note},
		{api.ActFinal, i.finish},
		{api.ActNumber, i.renumber},
		{api.ActStrange, i.passOver},
	}
}

func (i *initiator) do(a *affair, deeds []api.Deed) error {
	for _, d := range deeds {
		a.code = d.Code
		if err := perform(i.doings(), d.Kind, a); err != nil {
			return err
		}
	}
	return nil
}

// sendOut sends a message under its number. One that was submitted is read, and has room for every number.
func (i *initiator) sendOut(a *affair) error {
	if m, err := tree.Parse(a.Text); err == nil {
		text, _ := tree.Print(numbered(m, a.Number))
		i.send(text)
	}
	return nil
}

func (i *initiator) setTimer(a *affair) error {
	if tick := i.oneInterval(); tick != 0 {
		return i.timers.Set(a.Control, tick)
	}
	i.timers.Stop(a.Control)
	return nil
}

func (i *initiator) note(a *affair) error {
	return i.write(api.Record{Kind: api.RecCommit, Control: a.Control})
}

func (i *initiator) renumber(a *affair) error {
	a.Number = a.expect
	return i.write(api.Record{Kind: api.RecNumber, Control: a.Control, Number: a.Number})
}

func (i *initiator) finish(a *affair) error {
	return i.settle(api.Record{Control: a.Control, State: a.finalState(), Code: a.code}, a.found)
}

func (i *initiator) passOver(*affair) error {
	i.strange()
	return nil
}

// finalState is the one in which it is over: a code has answered it; else it has failed if something was owed.
func (a *affair) finalState() int {
	switch {
	case a.code != "":
		return api.WantAnswered
	case a.State == api.WantCommit || a.State == api.WantApp:
		return api.WantFailed
	}
	return api.WantClosed
}
