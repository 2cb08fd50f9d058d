package list

import (
	"slices"
	"strconv"

	"headend/api"
	"headend/check"
)

func isSkipped(n int) bool { return check.Within(n, 0, api.MaxEntries) }

// Shorten returns the delta for a client that has all numbers below have.
func Shorten(l api.List, have int) (api.Delta, api.Fault) {
	if fault := Check(l); fault != api.OK {
		return api.Delta{}, fault
	}
	most := max(len(l.Entries)-1, 0)
	// have is bounded first, as no number can be taken from the least one that there is.
	skipped := min(max(have, l.First+1)-1-l.First, most)
	return api.Delta{Skipped: skipped, List: with(l, l.Entries[skipped:])}, api.OK
}

// DeltaText writes a delta.
func DeltaText(d api.Delta) (string, api.Fault) {
	text, fault := listText(d.List, headSkip, strconv.Itoa(d.Skipped))
	fault = check.First(fault, check.If(!isSkipped(d.Skipped), api.ErrRange))
	if fault != api.OK {
		return "", fault
	}
	return text, api.OK
}

// ReadDelta returns the delta of a text, or the number of the first line that is wrong.
func ReadDelta(text string) (api.Delta, int, api.Fault) {
	var d api.Delta
	l, line, fault := readList(text, number(headSkip, &d.Skipped))
	fault = check.First(fault, check.If(!isSkipped(d.Skipped), api.ErrRange))
	if fault != api.OK {
		return api.Delta{}, line, fault
	}
	d.List = l
	return d, 0, api.OK
}

// Patch returns the whole list of one that a client has, and a delta.
func Patch(l api.List, d api.Delta) (api.List, api.Fault) {
	fault := check.First(
		Check(l),
		Check(d.List),
		check.If(!isSkipped(d.Skipped), api.ErrRange),
	)
	if fault != api.OK {
		return api.List{}, fault
	}
	known, isKnown := entriesFrom(l, d.List.First, d.Skipped)
	if !isKnown {
		return api.List{}, api.ErrNone
	}
	whole := with(d.List, slices.Concat(known, d.List.Entries))
	fault = check.First(Check(whole), Follows(l, whole))
	if fault != api.OK {
		return api.List{}, fault
	}
	return whole, api.OK
}

// entriesFrom returns so many entries of a list from a number on, or false, if it does not have all of them.
func entriesFrom(l api.List, number, n int) ([]api.Entry, bool) {
	from := number - l.First
	switch {
	case n == 0:
		return nil, true
	case from < 0 || from+n > len(l.Entries):
		return nil, false
	}
	return l.Entries[from : from+n], true
}
