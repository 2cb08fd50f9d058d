package sample

import (
	"math"
	"slices"

	"headend/api"
	"headend/box"
	"headend/check"
)

// Groups returns the groups of samples: each begins with a Key, or with the first sample.
func Groups(l []api.Sample) ([]api.Group, api.Fault) {
	if fault := box.CheckSamples(l); fault != api.OK {
		return nil, fault
	}
	presents, ends := presentsOf(l), endsOf(l)
	var groups []api.Group
	latest := math.MinInt // at which a sample of the groups before is presented
	for from := 0; from < len(l); {
		to := groupEnd(l, from)
		own := presents[from:to]
		groups = append(groups, api.Group{
			From: from, To: to,
			Key:    l[from].Key,
			Closed: l[from].Key && latest < own[0] && isFirst(own),
			Begin:  slices.Min(own),
			End:    slices.Max(ends[from:to]),
		})
		latest = max(latest, slices.Max(own))
		from = to
	}
	return groups, api.OK
}

// groupEnd returns where the group ends that begins with a sample.
func groupEnd(l []api.Sample, from int) int {
	behind := from + 1
	more := slices.IndexFunc(l[behind:], func(s api.Sample) bool { return s.Key })
	if more < 0 {
		return len(l)
	}
	return behind + more
}

// isFirst says whether the first one of times is less than all others.
func isFirst(times []int) bool {
	return !slices.ContainsFunc(times[1:], func(n int) bool { return n <= times[0] })
}

// Needed returns the samples that are needed to present a span.
func Needed(l []api.Sample, p api.Span) (api.Kept, api.Fault) {
	if fault := box.CheckSamples(l); fault != api.OK {
		return api.Kept{}, fault
	}
	if p.To <= p.From {
		return api.Kept{}, api.ErrOrder
	}
	if !check.IsTime(p.From) || !check.IsTime(p.To) {
		return api.Kept{}, api.ErrRange
	}
	presents, ends := presentsOf(l), endsOf(l)
	from, to := len(l), 0
	for i := range l {
		if max(presents[i], p.From) < min(ends[i], p.To) {
			from, to = min(from, i), i+1
		}
	}
	if to == 0 {
		return api.Kept{}, api.ErrNone
	}
	for from > 0 && !l[from].Key {
		from--
	}
	skip := max(p.From-slices.Min(presents[from:to]), 0)
	return api.Kept{From: from, To: to, Skip: skip}, api.OK
}

// Cut returns the samples that are kept, as they are.
func Cut(l []api.Sample, k api.Kept) ([]api.Sample, api.Fault) {
	if fault := box.CheckSamples(l); fault != api.OK {
		return nil, fault
	}
	if !check.Within(k.From, 0, k.To) || k.To > len(l) {
		return nil, api.ErrRange
	}
	return slices.Clone(l[k.From:k.To]), api.OK
}
