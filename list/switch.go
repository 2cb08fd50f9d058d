package list

import (
	"slices"

	"headend/api"
	"headend/check"
)

// Switch returns the number of the entry of b that has the moment at which the entry of a with a number begins.
func Switch(a, b api.List, number int) (int, api.Fault) {
	fault := check.First(
		Check(a),
		Check(b),
		check.If(number < a.First || number >= behind(a), api.ErrNone),
	)
	if fault != api.OK {
		return 0, fault
	}
	breaks, _ := breakNumbers(a)
	place := number - a.First
	here, there := stretchOf(a, breaks[place]), stretchOf(b, breaks[place])
	if there.From == there.To {
		return 0, api.ErrNone
	}
	dates, fault := Dates(a)
	others, otherFault := Dates(b)
	if fault := check.First(fault, otherFault); fault != api.OK {
		return 0, fault
	}
	isKnown := func(date int) bool { return date != noDate }
	isSought := func(at int) bool { // by its place
		return hasBeginning(a, here) && hasBeginning(b, there) && at-there.From == place-here.From
	}
	if isKnown(dates[place]) && slices.ContainsFunc(others[there.From:there.To], isKnown) {
		isSought = func(at int) bool { return isKnown(others[at]) && others[at] <= dates[place] }
	}
	for at := there.To - 1; at >= there.From; at-- {
		if isSought(at) {
			return b.First + at, api.OK
		}
	}
	return 0, api.ErrState
}

// stretchOf returns the places of the entries with a break number.
func stretchOf(l api.List, number int) api.Span {
	numbers, _ := breakNumbers(l)
	from, _ := slices.BinarySearch(numbers, number)
	to, _ := slices.BinarySearch(numbers, number+1)
	return api.Span{From: from, To: to}
}

// hasBeginning says whether a stretch of a list, which has entries, begins in the list.
func hasBeginning(l api.List, stretch api.Span) bool {
	return l.First == 0 || l.Entries[stretch.From].Break
}
