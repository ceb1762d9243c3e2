package ack

import (
	"slices"

	"courier/api"
	"courier/esc"
	"courier/stamp"
	"courier/types"
)

// The numbers of some fields of an Ack.
const (
	numberMarks  = 1
	numberCode   = 12
	numberExpect = 14
	numberErrors = 15
)

const (
	maxOwn   = 20 // bytes of an acknowledgement's own control id
	maxPlace = 64 // bytes of an HD's second text
	noNumber = -1 // the Expect of an empty MSA-4
	null     = `""`
)

// refuse goes through an Ack's fields with these numbers up to the first that isn't right.
func refuse(a api.Ack, from, to int) error {
	rules := rulesOf(a)
	for number := from; number <= to; number++ {
		if !rules[number-1]() {
			return fault(number, api.ErrAck, nil)
		}
	}
	return nil
}

// rulesOf tells of each field of an Ack, in the order of their numbers, whether it is right. Those of the HDs lean on the Marks, which are asked for first.
func rulesOf(a api.Ack) [numberErrors]func() bool {
	hd := func(v [3]string) func() bool {
		return func() bool { return isHD(a.Marks, v) }
	}
	return [...]func() bool{
		func() bool { return esc.Valid(a.Marks) == nil },
		func() bool { return a.From[0] != "" && isHD(a.Marks, a.From) },
		hd(a.FromPlace),
		hd(a.To),
		hd(a.ToPlace),
		func() bool { return isSecond(a.Stamp) },
		func() bool { return a.Event == "" || isEvent(a.Event) },
		func() bool { return isOwn(a.Control) },
		func() bool { return isProcess(a.Process) },
		func() bool { return isVersion(a.Version) },
		func() bool { return true },
		func() bool { return isCode(a.Code) },
		func() bool { return isFor(a.For) },
		func() bool { return a.Expect >= noNumber && a.Expect <= api.MaxNumber },
		func() bool { return len(a.Errors) == 0 || mayReport(a.Code) && areFindings(a.Errors) },
	}
}

func isHD(m api.Marks, v [3]string) bool {
	_, err := types.Lay(m, "HD", v)
	return err == nil && isNarrow(v)
}

// isNarrow tells whether three texts that layer 8 takes as an HD are one here.
func isNarrow(v [3]string) bool {
	return len(v[1]) <= maxPlace && (v[1] == "" || v[2] != "") && !slices.Contains(v[:], null)
}

func isSecond(text string) bool {
	s, err := stamp.Parse(text)
	return err == nil && s.Level >= api.StampSecond
}

func isEvent(text string) bool { return isValue(3, text) }

func isProcess(text string) bool { return isValue(103, text) }

func isVersion(text string) bool { return isValue(104, text) }

func isCode(text string) bool { return isValue(8, text) }

// isValue looks into the table itself: for layer 8's Text the null is right too.
func isValue(table int, text string) bool {
	values, _ := types.Table(table)
	return slices.Contains(values, text)
}

func isOwn(text string) bool { return isControl(text, maxOwn) }

func isFor(text string) bool { return isControl(text, api.MaxControl) }

func isControl(text string, most int) bool {
	if text == "" || len(text) > most {
		return false
	}
	for i := range len(text) {
		if b := text[i]; !isCapital(b) && !isDigit(b) && !('a' <= b && b <= 'z') && b != '.' && b != '-' {
			return false
		}
	}
	return true
}

// mayReport tells whether errors may stand beside a code that is right.
func mayReport(code string) bool { return code != "AA" && code != "CA" }

func areFindings(list []api.Finding) bool {
	return len(list) <= api.MaxErrors && !slices.ContainsFunc(list, func(f api.Finding) bool { return !isFinding(f) })
}

// numbers are those of a Finding's place in its segment, from Occur to Sub.
type numbers [5]int

// mostOf is how great each of them may be. Of an MSH two fields more are counted than it has in its list.
var mostOf = numbers{api.MaxSegments, api.MaxFields + 2, api.MaxReps, api.MaxComps, api.MaxSubs}

func numbersOf(f api.Finding) numbers { return numbers{f.Occur, f.Field, f.Rep, f.Comp, f.Sub} }

func findingOf(code int, seg string, n numbers) api.Finding {
	return api.Finding{Code: code, Seg: seg, Occur: n[0], Field: n[1], Rep: n[2], Comp: n[3], Sub: n[4]}
}

func isFinding(f api.Finding) bool {
	told := numbersOf(f)
	for i, n := range told {
		if n < 0 || n > mostOf[i] {
			return false
		}
	}
	if end := slices.Index(told[:], 0); end >= 0 {
		clear(told[end:])
	}
	return findingOf(f.Code, f.Seg, told) == f && isErrorCode(f.Code) &&
		(f.Seg == "" && f.Occur == 0 || isName(f.Seg) && f.Occur > 0)
}

func isErrorCode(code int) bool { return code >= 100 && code <= 103 || code >= 200 && code <= 207 }

func isName(text string) bool {
	return len(text) == 3 && isCapital(text[0]) && isNameByte(text[1]) && isNameByte(text[2])
}

func isNameByte(b byte) bool { return isCapital(b) || isDigit(b) }

func isCapital(b byte) bool { return 'A' <= b && b <= 'Z' }

func isDigit(b byte) bool { return '0' <= b && b <= '9' }
