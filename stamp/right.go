package stamp

import "courier/api"

const (
	maxYear   = 9999
	maxDigits = 4
	maxZone   = 14 * 60
)

// right tells whether a Stamp is that of a text.
func right(s api.Stamp) bool {
	return rightDate(s) && rightClock(s) && rightPart(s) && rightZone(s)
}

func rightDate(s api.Stamp) bool {
	if s.Level < api.StampYear || s.Level > api.StampPart {
		return false
	}
	return within(s.Year, 1, maxYear) &&
		fits(s.Level >= api.StampMonth, s.Month, 1, 12) &&
		fits(s.Level >= api.StampDay, s.Day, 1, daysIn(s.Year, s.Month))
}

func rightClock(s api.Stamp) bool {
	return fits(s.Level >= api.StampHour, s.Hour, 0, 23) &&
		fits(s.Level >= api.StampMinute, s.Minute, 0, 59) &&
		fits(s.Level >= api.StampSecond, s.Second, 0, 59)
}

func rightPart(s api.Stamp) bool {
	told := s.Level == api.StampPart
	return fits(told, s.Digits, 1, maxDigits) && fits(told, s.Part, 0, int(tens(s.Digits))-1)
}

func rightZone(s api.Stamp) bool {
	return fits(s.Zoned, s.Zone, -maxZone, maxZone)
}

// fits: a number that is told is in its range, one that is not is 0.
func fits(told bool, n, low, high int) bool {
	if !told {
		return n == 0
	}
	return within(n, low, high)
}

func within(n, low, high int) bool { return low <= n && n <= high }
