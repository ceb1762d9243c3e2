package decide

import "courier/api"

// The six codes of acknowledgements.
const (
	commitAccept = "CA"
	commitError  = "CE"
	commitReject = "CR"
	appAccept    = "AA"
	appError     = "AE"
	appReject    = "AR"
)

// words stand at the numbers of their conditions.
var words = [...]string{api.CondNE: "NE", api.CondAL: "AL", api.CondER: "ER", api.CondSU: "SU"}

// rule says when a code is sent, and so when it may come.
type rule struct {
	code   string
	commit bool // it hangs on Accept, and original mode has none; else it hangs on App
	on     int  // the condition, beside AL, under which it is sent
}

// codes is what the responder sends by and the initiator listens by.
var codes = [...]rule{
	{commitAccept, true, api.CondSU},
	{commitError, true, api.CondER},
	{commitReject, true, api.CondER},
	{appAccept, false, api.CondSU},
	{appError, false, api.CondER},
	{appReject, false, api.CondER},
}

func (r rule) holds(c api.Conditions) bool {
	if !c.Enhanced {
		return !r.commit
	}
	asked := c.App
	if r.commit {
		asked = c.Accept
	}
	return asked == api.CondAL || asked == r.on
}

// may tells whether a code is sent under these conditions, and may come; other texts never are.
func may(c api.Conditions, code string) bool {
	for _, r := range codes {
		if r.code == code {
			return r.holds(c)
		}
	}
	return false
}

func isVerdict(code string) bool {
	for _, r := range codes {
		if r.code == code {
			return !r.commit
		}
	}
	return false
}

func isKept(k api.Kept) bool {
	if k.Decided {
		return isVerdict(k.Code)
	}
	return k.Code == ""
}

// refusal tells the code by which a message is refused ahead of acceptance, by its header or by what stands behind it.
func refusal(enhanced, header bool) string {
	switch {
	case enhanced && header:
		return commitReject
	case enhanced:
		return commitError
	case header:
		return appReject
	}
	return appError
}

// condition reads one of the two fields in enhanced mode, where an empty one counts as NE.
func condition(word string) (int, bool) {
	if word == "" {
		return api.CondNE, true
	}
	for number, w := range words {
		if w == word {
			return number, true
		}
	}
	return 0, false
}

func refuse(c api.Conditions) error {
	if c.Enhanced && isCondition(c.Accept) && isCondition(c.App) || c == (api.Conditions{}) {
		return nil
	}
	return fault(0, api.ErrCond)
}

func isCondition(number int) bool { return number >= 0 && number < len(words) }

// sent gives the one act that sends a code, if these conditions let it go.
func sent(c api.Conditions, kind int, code string) []api.Act {
	if !may(c, code) {
		return nil
	}
	return []api.Act{{Kind: kind, Code: code}}
}
