package cut

import (
	"slices"

	"headend/api"
	"headend/box"
	"headend/check"
	"headend/sample"
	"headend/tick"
)

// noSample stands for the first sample of a segment that cannot begin at its boundary.
const noSample = -1

// Segments cuts a rendition at boundaries, which are in ticks of a scale.
func Segments(r api.Strand, scale int, bounds []int, first int) ([]api.Segment, api.Fault) {
	fault := check.First(
		checkStrands(r),
		check.If(!check.IsScale(scale), api.ErrRange),
		checkRising(bounds),
		check.If(!check.Within(first, 0, api.MaxTime-api.MaxCuts), api.ErrRange),
	)
	if fault != api.OK {
		return nil, fault
	}
	return segmentsOf(r, scale, bounds, first)
}

func segmentsOf(r api.Strand, scale int, bounds []int, first int) ([]api.Segment, api.Fault) {
	starts, times, fault := startsOf(r, scale, bounds)
	if fault != api.OK {
		return nil, fault
	}
	if starts[0] != 0 {
		return nil, api.ErrForm
	}
	presents, _ := sample.Presents(r.Samples)
	ends, _ := sample.Ends(r.Samples)
	last := len(starts) - 1
	end := slices.Max(ends[starts[last]:])
	if end < times[last] {
		return nil, api.ErrRange
	}
	starts, times = append(starts, len(r.Samples)), append(times, end)
	var l []api.Segment
	for k := range bounds {
		from, to := starts[k], starts[k+1]
		l = append(l, api.Segment{
			Number: first + k,
			From:   from, To: to,
			Begin:  presents[from],
			Length: times[k+1] - times[k],
			Bytes:  box.BytesOf(r.Samples[from:to]),
			Lead:   max(times[k]-presents[from], 0),
		})
	}
	return l, api.OK
}

// startsOf returns with which samples the segments begin, and the boundaries in ticks of the rendition.
func startsOf(r api.Strand, scale int, bounds []int) (starts, times []int, _ api.Fault) {
	starts = foundBy(finder(r), scale, bounds)
	for k, bound := range bounds {
		at, fault := tick.Convert(bound, scale, r.Scale, api.Down)
		isEmpty := k+1 < len(starts) && starts[k+1] == starts[k]
		fault = check.First(
			fault,
			check.If(starts[k] == noSample, api.ErrNone),
			check.If(isEmpty, api.ErrZero),
		)
		if fault != api.OK {
			return nil, nil, fault
		}
		times = append(times, at)
	}
	return starts, times, api.OK
}

// foundBy returns what a finder finds at boundaries. They are moments, so that it does not matter whether they are times in ticks of the rendition.
func foundBy(find func(at tick.Moment) (int, bool), scale int, bounds []int) []int {
	var starts []int
	for _, bound := range bounds {
		start, found := find(tick.MomentOf(scale, bound))
		if !found {
			start = noSample
		}
		starts = append(starts, start)
	}
	return starts
}

// All cuts renditions at boundaries, which are in ticks of the first one.
func All(l []api.Strand, bounds []int, first int) ([][]api.Segment, api.Fault) {
	if fault := CheckRenditions(l); fault != api.OK {
		return nil, fault
	}
	var all [][]api.Segment
	for _, r := range l {
		segments, fault := Segments(r, l[0].Scale, bounds, first)
		if fault != api.OK {
			return nil, fault
		}
		all = append(all, segments)
	}
	return all, api.OK
}
