package tick

import (
	"headend/api"
	"headend/check"
)

const (
	firstYear     = 1970
	milliOfDay    = 24 * milliOfHour
	milliOfHour   = 60 * milliOfMinute
	milliOfMinute = 60 * milliOfSecond
	milliOfSecond = 1000
)

// dateForm is the form of a date: a digit stands where it has a 0, and all else stands as it is.
const dateForm = "0000-00-00T00:00:00.000Z"

// Date returns the moment so many milliseconds after the beginning of the year 1970.
func Date(milli int) (string, api.Fault) {
	if !check.Within(milli, 0, api.MaxMilli) {
		return "", api.ErrRange
	}
	year, month, day := calendar(milli / milliOfDay)
	rest := milli % milliOfDay
	text := padded(year, 4) + "-" + padded(month, 2) + "-" + padded(day, 2)
	text += "T" + padded(rest/milliOfHour, 2)
	text += ":" + padded(rest%milliOfHour/milliOfMinute, 2)
	text += ":" + padded(rest%milliOfMinute/milliOfSecond, 2)
	text += "." + padded(rest%milliOfSecond, 3) + "Z"
	return text, api.OK
}

// ReadDate returns the milliseconds of a text as Date writes it.
func ReadDate(text string) (int, api.Fault) {
	if !hasDateForm(text) {
		return 0, api.ErrSyntax
	}
	year, month, day := number(text[0:4]), number(text[5:7]), number(text[8:10])
	hour, minute, second := number(text[11:13]), number(text[14:16]), number(text[17:19])
	if year < firstYear || !check.Within(month, 1, 12) || !check.Within(day, 1, daysOfMonth(year, month)) {
		return 0, api.ErrSyntax
	}
	if hour > 23 || minute > 59 || second > 59 {
		return 0, api.ErrSyntax
	}
	days := daysBefore(year) + day - 1
	for m := 1; m < month; m++ {
		days += daysOfMonth(year, m)
	}
	milli := days*milliOfDay + hour*milliOfHour + minute*milliOfMinute + second*milliOfSecond
	return milli + number(text[20:23]), api.OK
}

func hasDateForm(text string) bool {
	if len(text) != len(dateForm) {
		return false
	}
	for i := range len(text) {
		if dateForm[i] == '0' && !isDigits(text[i:i+1]) || dateForm[i] != '0' && text[i] != dateForm[i] {
			return false
		}
	}
	return true
}

// calendar returns the year, the month and the day so many days after the first one of 1970.
func calendar(days int) (year, month, day int) {
	year = firstYear + days/366 // no later than it is, as no year has more days
	for daysBefore(year+1) <= days {
		year++
	}
	days -= daysBefore(year)
	month = 1
	for days >= daysOfMonth(year, month) {
		days -= daysOfMonth(year, month)
		month++
	}
	return year, month, days + 1
}

// daysBefore returns how many days there are from the beginning of 1970 to that of a year.
func daysBefore(year int) int {
	return (year-firstYear)*365 + leapsBefore(year) - leapsBefore(firstYear)
}

// leapsBefore returns how many years from 1 on, before a year, have a day more.
func leapsBefore(year int) int {
	y := year - 1
	return y/4 - y/100 + y/400
}

func daysOfMonth(year, month int) int {
	switch month {
	case 2:
		return 28 + leapsBefore(year+1) - leapsBefore(year)
	case 4, 6, 9, 11:
		return 30
	}
	return 31
}
