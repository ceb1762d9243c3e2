package stamp

import "courier/api"

// Lengths in ten-thousandths of a second.
const (
	perSecond int64 = 10000
	perMinute       = 60 * perSecond
	perHour         = 60 * perMinute
	perDay          = 24 * perHour
)

// Days of the calendar's rounds. The last century of four, and the last year of four, are a day longer than these.
const (
	daysOfYear      int64 = 365
	daysOfFour            = 4*daysOfYear + 1
	daysOfCentury         = 25*daysOfFour - 1
	daysOfCenturies       = 4*daysOfCentury + 1
)

// lastInstant is that of 9999-12-31 23:59:59.9999.
const lastInstant int64 = 3155378975999999

// monthDays are those of a common year.
var monthDays = [12]int64{31, 28, 31, 30, 31, 30, 31, 31, 30, 31, 30, 31}

func leap(year int64) bool {
	return year%4 == 0 && year%100 != 0 || year%400 == 0
}

// daysOf tells the days of a month from 1 to 12.
func daysOf(year, month int64) int64 {
	if month == 2 && leap(year) {
		return 29
	}
	return monthDays[month-1]
}

// daysIn tells the days of any month, 0 of one that is none: a number that is still to be judged may be asked for.
func daysIn(year, month int) int {
	if !within(month, 1, 12) {
		return 0
	}
	return int(daysOf(int64(year), int64(month)))
}

// daysAhead tells how many days stand between the beginning of the year 1 and a day.
func daysAhead(year, month, day int64) int64 {
	y := year - 1
	n := y*daysOfYear + y/4 - y/100 + y/400
	for m := int64(1); m < month; m++ {
		n += daysOf(year, m)
	}
	return n + day - 1
}

// dayAt tells year, month and day of the day ahead of which so many stand. The long century and the long year are held back by min: their last day is no beginning of a fifth.
func dayAt(days int64) (year, month, day int64) {
	centuries, rest := days/daysOfCenturies, days%daysOfCenturies
	century := min(rest/daysOfCentury, 3)
	rest -= century * daysOfCentury
	four := rest / daysOfFour
	rest %= daysOfFour
	one := min(rest/daysOfYear, 3)
	rest -= one * daysOfYear
	year, month = 400*centuries+100*century+4*four+one+1, 1
	for rest >= daysOf(year, month) {
		rest -= daysOf(year, month)
		month++
	}
	return year, month, rest + 1
}

// instant is that of a right stamp.
func instant(s api.Stamp) int64 {
	days := daysAhead(int64(s.Year), int64(max(s.Month, 1)), int64(max(s.Day, 1)))
	t := days*perDay + int64(s.Hour)*perHour + int64(s.Minute)*perMinute + int64(s.Second)*perSecond
	if s.Level == api.StampPart {
		t += int64(s.Part) * length(s)
	}
	return t - int64(s.Zone)*perMinute
}

// length tells how long the time is for which a right stamp may stand.
func length(s api.Stamp) int64 {
	year := int64(s.Year)
	switch s.Level {
	case api.StampYear:
		return (daysAhead(year+1, 1, 1) - daysAhead(year, 1, 1)) * perDay
	case api.StampMonth:
		return daysOf(year, int64(s.Month)) * perDay
	case api.StampDay:
		return perDay
	case api.StampHour:
		return perHour
	case api.StampMinute:
		return perMinute
	case api.StampSecond:
		return perSecond
	}
	return tens(maxDigits - s.Digits)
}

// stampOf tells the stamp of an instant from 0 to the last, at Level 6 or 7.
func stampOf(t int64, level int) api.Stamp {
	year, month, day := dayAt(t / perDay)
	t %= perDay
	s := api.Stamp{
		Level: level,
		Year:  int(year), Month: int(month), Day: int(day),
		Hour: int(t / perHour), Minute: int(t % perHour / perMinute), Second: int(t % perMinute / perSecond),
	}
	if level == api.StampPart {
		s.Part, s.Digits = int(t%perSecond), maxDigits
	}
	return s
}

// tens tells the power of ten of so many digits, with 1 for any that are none.
func tens(digits int) int64 {
	n := int64(1)
	for range min(digits, maxDigits) {
		n *= 10
	}
	return n
}

func floorDiv(a, b int64) int64 {
	q := a / b
	if a%b < 0 {
		q--
	}
	return q
}
