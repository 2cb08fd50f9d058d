package sample

import (
	"slices"

	"headend/api"
	"headend/box"
	"headend/check"
	"headend/tick"
)

// retimed returns samples that are decoded at other times, and presented when they were.
func retimed(l []api.Sample, timeOf func(i int) int) []api.Sample {
	result := slices.Clone(l)
	for i, s := range l {
		time := timeOf(i)
		result[i].Time, result[i].Shift = time, s.Time+s.Shift-time
	}
	return result
}

// Reordered makes samples of times of presentation, which are given in the order of decoding.
func Reordered(presents []int, last int, sizes []int, keys []bool) ([]api.Sample, api.Fault) {
	if len(presents) > api.MaxSamples {
		return nil, api.ErrLarge
	}
	if len(sizes) != len(presents) || len(keys) != len(presents) {
		return nil, api.ErrForm
	}
	if slices.ContainsFunc(presents, func(n int) bool { return !check.IsTime(n) }) {
		return nil, api.ErrRange
	}
	sorted := slices.Sorted(slices.Values(presents))
	if len(slices.Compact(slices.Clone(sorted))) < len(sorted) {
		return nil, api.ErrTwice
	}
	delay := 0
	l := make([]api.Sample, len(presents))
	for i, n := range presents {
		delay = max(delay, sorted[i]-n)
		l[i] = api.Sample{Time: n, Step: last, Size: sizes[i], Key: keys[i]}
	}
	l = retimed(l, func(i int) int { return sorted[i] - delay })
	setSteps(l)
	return checked(l)
}

// Tight returns samples whose Times are moved by one number, such that the least Shift is 0, and this number.
func Tight(l []api.Sample) ([]api.Sample, int, api.Fault) {
	if fault := box.CheckSamples(l); fault != api.OK {
		return nil, 0, fault
	}
	if len(l) == 0 {
		return nil, 0, api.OK
	}
	by := l[0].Shift
	for _, s := range l {
		by = min(by, s.Shift)
	}
	tight, fault := checked(retimed(l, func(i int) int { return l[i].Time + by }))
	if fault != api.OK {
		return nil, 0, fault
	}
	return tight, by, api.OK
}

// Straight returns samples whose Times are put on grids of a step, and that are presented when they were.
func Straight(l []api.Sample, step, slack int) ([]api.Sample, api.Fault) {
	if fault := box.CheckSamples(l); fault != api.OK {
		return nil, fault
	}
	times := make([]int, len(l))
	for i, s := range l {
		times[i] = s.Time
	}
	times, fault := tick.Regular(times, step, slack)
	if fault != api.OK {
		return nil, fault
	}
	straight := retimed(l, func(i int) int { return times[i] })
	setSteps(straight)
	if slices.ContainsFunc(straight, func(s api.Sample) bool { return s.Step < 0 }) {
		return nil, api.ErrClash
	}
	return checked(straight)
}
