package cut

import (
	"headend/api"
	"headend/check"
)

// Ranges returns where segments lie in a file, one after another, from a place on.
func Ranges(l []api.Segment, start int) ([]api.Range, api.Fault) {
	if !check.Within(start, 0, api.MaxTime) {
		return nil, api.ErrRange
	}
	if len(l) > api.MaxCuts {
		return nil, api.ErrLarge
	}
	var ranges []api.Range
	for _, s := range l {
		if !check.Within(s.Bytes, 0, api.MaxTime-start) {
			return nil, api.ErrRange
		}
		ranges = append(ranges, api.Range{From: start, To: start + s.Bytes})
		start += s.Bytes
	}
	return ranges, api.OK
}

// touched returns the first and the last one of the segments that have a tick in common with a span, or false, if there is none.
func touched(l []api.Segment, p api.Span) (first, last int, found bool) {
	for i, s := range l {
		if max(boundOf(s), p.From) >= min(endOf(s), p.To) {
			continue
		}
		if !found {
			first = i
		}
		last, found = i, true
	}
	return first, last, found
}

// Seek returns which segment has a moment, and how many ticks this is after its boundary.
func Seek(l []api.Segment, time int) (int, int, api.Fault) {
	fault := check.First(
		checkTimes(l),
		check.If(!check.IsTime(time), api.ErrRange),
	)
	if fault != api.OK {
		return 0, 0, fault
	}
	_, last, found := touched(l, api.Span{From: time, To: time + 1})
	if !found {
		return 0, 0, api.ErrNone
	}
	return last, time - boundOf(l[last]), api.OK
}

// Fetch returns the bytes that are needed to present a span of segments that lie in a file from a place on.
func Fetch(l []api.Segment, p api.Span, start int) (api.Range, api.Fault) {
	ranges, fault := Ranges(l, start)
	fault = check.First(
		fault,
		checkTimes(l),
		check.If(!check.IsTime(p.From) || !check.IsTime(p.To), api.ErrRange),
		check.If(p.To <= p.From, api.ErrOrder),
	)
	if fault != api.OK {
		return api.Range{}, fault
	}
	first, last, found := touched(l, p)
	if !found {
		return api.Range{}, api.ErrNone
	}
	return api.Range{From: ranges[first].From, To: ranges[last].To}, api.OK
}
