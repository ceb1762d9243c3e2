package stamp

import (
	"strconv"
	"strings"

	"courier/api"
)

// write puts the text together from its end: each level has all that the coarser ones have.
func write(s api.Stamp) string {
	text := zoneText(s)
	switch s.Level {
	case api.StampPart:
		text = "." + padded(s.Part, s.Digits) + text
		fallthrough
	case api.StampSecond:
		text = padded(s.Second, 2) + text
		fallthrough
	case api.StampMinute:
		text = padded(s.Minute, 2) + text
		fallthrough
	case api.StampHour:
		text = padded(s.Hour, 2) + text
		fallthrough
	case api.StampDay:
		text = padded(s.Day, 2) + text
		fallthrough
	case api.StampMonth:
		text = padded(s.Month, 2) + text
		fallthrough
	case api.StampYear:
		text = padded(s.Year, 4) + text
	}
	return text
}

func zoneText(s api.Stamp) string {
	if !s.Zoned {
		return ""
	}
	sign, minutes := "+", s.Zone
	if minutes < 0 {
		sign, minutes = "-", -minutes
	}
	return sign + padded(minutes/60*100+minutes%60, 4)
}

func padded(n, width int) string {
	digits := strconv.Itoa(n)
	return strings.Repeat("0", max(width-len(digits), 0)) + digits
}
