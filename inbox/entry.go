package inbox

import "courier/api"

// mayBe asks the rules for an entry, up to the first that is broken.
func mayBe(e api.InEntry) bool {
	may := true
asking:
	for _, holds := range rules(e) {
		if !holds() {
			may = false
			break asking
		}
	}
	return may
}

// rules are what makes an entry one that may be.
func rules(e api.InEntry) []func() bool {
	return []func() bool{
		func() bool { return isControl(e.Control) },
		func() bool { return isWithin(len(e.Text), 1, api.MaxMessage) },
		func() bool { return isWithin(e.Number, 0, api.MaxNumber) },
		func() bool { return isWithin(e.Tick, 0, api.MaxTick) },
		func() bool { return len(e.Commit) <= api.MaxAnswer },
		func() bool { return len(e.Answer) <= api.MaxAnswer },
		func() bool { return e.Code == "" || isVerdict(e.Code) },
		func() bool { return e.Code != "" || len(e.Answer) == 0 },
	}
}

func isControl(text string) bool {
	if !isWithin(len(text), 1, api.MaxControl) {
		return false
	}
	for _, c := range []byte(text) {
		if !isControlByte(c) {
			return false
		}
	}
	return true
}

func isControlByte(c byte) bool {
	return c >= '0' && c <= '9' || c >= 'A' && c <= 'Z' || c >= 'a' && c <= 'z' || c == '.' || c == '-'
}

func isWithin(n, least, most int) bool { return n >= least && n <= most }

func isVerdict(code string) bool { return code == "AA" || code == "AE" || code == "AR" }

func isDecided(e api.InEntry) bool { return e.Code != "" }

// copied gives an entry whose byte strings are nobody else's.
func copied(e api.InEntry) api.InEntry {
	e.Text, e.Commit, e.Answer = fresh(e.Text), fresh(e.Commit), fresh(e.Answer)
	return e
}

func allCopied(list []api.InEntry) []api.InEntry {
	all := make([]api.InEntry, len(list))
	for i, e := range list {
		all[i] = copied(e)
	}
	return all
}

// fresh gives new memory; of nothing it is nil, however that was handed in, so that the two can't be told apart.
func fresh(b []byte) []byte { return append([]byte(nil), b...) }
