package decide

import "courier/api"

// owed is what an initiator waits for under its message's conditions.
type owed struct {
	commit bool
	app    bool
	ear    bool // something may come still when nothing is owed, or no more
}

func owedBy(c api.Conditions) owed {
	o := owed{commit: may(c, commitAccept), app: may(c, appAccept)}
	// Behind a commit that has come its refusal can't come any more, so that the ear is for the application's errors alone.
	o.ear = !o.app && (may(c, appError) || !o.commit && may(c, commitError))
	return o
}

// answer is what has come.
type answer struct {
	code   string
	number bool // it tells another number than the message's own
}

func (a answer) isByNumber() bool {
	return a.number && (a.code == commitError || a.code == appError)
}

// state is what a want does while it stands there.
type state struct {
	fits  func(o owed) bool
	heard func(o owed, w api.Want, a answer) (api.Want, []api.Act)
	due   func(w api.Want) (api.Want, []api.Act)
}

// states stand at their numbers; there is none at 0.
func states() [api.WantFailed + 1]state {
	always := func(owed) bool { return true }
	return [...]state{
		api.WantCommit:   {func(o owed) bool { return o.commit }, heardAhead, again},
		api.WantApp:      {func(o owed) bool { return o.app }, heardBehind, again},
		api.WantListen:   {func(o owed) bool { return o.ear }, heardBehind, closed},
		api.WantAnswered: {always, strange, stay},
		api.WantClosed:   {always, strange, stay},
		api.WantFailed:   {func(o owed) bool { return o.commit || o.app }, strange, stay},
	}
}

// standing finds the state of a want that fits the conditions.
func standing(c api.Conditions, w api.Want) (owed, state, error) {
	if err := refuse(c); err != nil {
		return owed{}, state{}, err
	}
	o := owedBy(c)
	if w.State < api.WantCommit || w.State > api.WantFailed || !areTries(w.Left) {
		return owed{}, state{}, fault(0, api.ErrWant)
	}
	s := states()[w.State]
	if !s.fits(o) {
		return owed{}, state{}, fault(0, api.ErrWant)
	}
	return o, s, nil
}

func areTries(n int) bool { return n >= 0 && n <= api.MaxTries }

// begin tells the state in which a message begins, and the act behind its sending.
func begin(o owed, noted bool) (int, api.Act) {
	timer := api.Act{Kind: api.ActTimer}
	switch {
	case o.commit && !noted:
		return api.WantCommit, timer
	case o.app:
		return api.WantApp, timer
	case o.ear:
		return api.WantListen, timer
	case noted:
		return api.WantAnswered, api.Act{Kind: api.ActFinal, Code: commitAccept}
	}
	return api.WantClosed, api.Act{Kind: api.ActFinal}
}

// heardAhead hears an answer while the commit is waited for.
func heardAhead(o owed, w api.Want, a answer) (api.Want, []api.Act) {
	if a.code != commitAccept {
		return refusedOrOver(w, a)
	}
	note := api.Act{Kind: api.ActNote}
	switch {
	case o.app:
		return api.Want{State: api.WantApp, Left: w.Left}, []api.Act{note}
	case o.ear:
		return api.Want{State: api.WantListen, Left: w.Left}, []api.Act{note, {Kind: api.ActTimer}}
	}
	return over(w, api.WantAnswered, a.code)
}

// heardBehind hears an answer when the commit has come, or none was owed.
func heardBehind(o owed, w api.Want, a answer) (api.Want, []api.Act) {
	if a.code == commitAccept {
		return stay(w)
	}
	// With the commit the number was taken: what refuses it is an old answer.
	if a.isByNumber() && o.commit {
		return strange(o, w, a)
	}
	return refusedOrOver(w, a)
}

// refusedOrOver takes the number that a refusal tells, while a try is left; every other answer ends the message.
func refusedOrOver(w api.Want, a answer) (api.Want, []api.Act) {
	if !a.isByNumber() || w.Left == 0 {
		return over(w, api.WantAnswered, a.code)
	}
	w, resend := again(w)
	return w, append([]api.Act{{Kind: api.ActNumber}}, resend...)
}

// again sends once more, or gives up.
func again(w api.Want) (api.Want, []api.Act) {
	if w.Left == 0 {
		return over(w, api.WantFailed, "")
	}
	return api.Want{State: w.State, Left: w.Left - 1}, []api.Act{{Kind: api.ActSend}, {Kind: api.ActTimer}}
}

func closed(w api.Want) (api.Want, []api.Act) { return over(w, api.WantClosed, "") }

func stay(w api.Want) (api.Want, []api.Act) { return w, nil }

func strange(_ owed, w api.Want, _ answer) (api.Want, []api.Act) { return w, passOver() }

func passOver() []api.Act { return []api.Act{{Kind: api.ActStrange}} }

func over(w api.Want, state int, code string) (api.Want, []api.Act) {
	return api.Want{State: state, Left: w.Left}, []api.Act{{Kind: api.ActFinal, Code: code}}
}
