package list

import (
	"headend/api"
	"headend/check"
)

const noDate = -1 // of an entry whose date is not told, or not known

// Length returns how many milliseconds a list has.
func Length(l api.List) (int, api.Fault) {
	if fault := Check(l); fault != api.OK {
		return 0, fault
	}
	return lengthOf(l.Entries), api.OK
}

func lengthOf(entries []api.Entry) int {
	length := 0
	for _, e := range entries {
		length += e.Milli
	}
	return length
}

// Dates returns the moment at which each entry begins, as far as it is known.
func Dates(l api.List) ([]int, api.Fault) {
	if fault := Check(l); fault != api.OK {
		return nil, fault
	}
	var dates []int
	isWrong := false
	found := func(date int) int {
		isWrong = isWrong || !check.Within(date, 0, api.MaxMilli)
		return date
	}
	for i, e := range l.Entries {
		date := e.Date
		if date == noDate && !e.Break && i > 0 && dates[i-1] != noDate {
			date = found(dates[i-1] + l.Entries[i-1].Milli)
		}
		dates = append(dates, date)
	}
	for i := len(dates) - 2; i >= 0 && !isWrong; i-- {
		if dates[i] == noDate && dates[i+1] != noDate && !l.Entries[i+1].Break {
			dates[i] = found(dates[i+1] - l.Entries[i].Milli)
		}
	}
	if isWrong {
		return nil, api.ErrRange
	}
	return dates, api.OK
}

// At returns the place of the entry that has a moment, so many milliseconds after the beginning, and how many of these it has before the moment.
func At(l api.List, milli int) (int, int, api.Fault) {
	fault := check.First(
		Check(l),
		check.If(milli < 0, api.ErrRange),
	)
	if fault != api.OK {
		return 0, 0, fault
	}
	for i, e := range l.Entries {
		if milli < e.Milli {
			return i, milli, api.OK
		}
		milli -= e.Milli
	}
	return 0, 0, api.ErrNone
}
