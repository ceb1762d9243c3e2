package world

import (
	"strings"

	"courier/api"
)

func writeReport(lists [][]api.Seen) (string, error) {
	var text strings.Builder
	for number, list := range lists {
		for _, s := range list {
			line, ok := seenLine(number, s)
			if !ok {
				return "", fault(number, api.ErrReport)
			}
			text.WriteString(line)
		}
	}
	return text.String(), nil
}

func readReport(text string) ([][]api.Seen, error) {
	lists := make([][]api.Seen, 1)
	for at, line := range lines(text) {
		number, s, ok := readSeen(line)
		if !ok || number < len(lists)-1 {
			return nil, fault(at, api.ErrReport)
		}
		for len(lists) <= number {
			lists = append(lists, nil)
		}
		lists[number] = append(lists[number], s)
	}
	return lists, nil
}
