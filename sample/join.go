package sample

import (
	"slices"

	"headend/api"
	"headend/box"
	"headend/check"
)

// Moved returns samples that are decoded and presented later.
func Moved(l []api.Sample, by int) ([]api.Sample, api.Fault) {
	if fault := box.CheckSamples(l); fault != api.OK {
		return nil, fault
	}
	if !check.IsTime(by) {
		return nil, api.ErrRange
	}
	return checked(movedBy(l, by))
}

func movedBy(l []api.Sample, by int) []api.Sample {
	moved := slices.Clone(l)
	for i := range moved {
		moved[i].Time += by
	}
	return moved
}

// Join returns the samples of a, and then those of b, moved such that their presentation begins when that of a ends.
func Join(a, b []api.Sample) ([]api.Sample, api.Fault) {
	for _, l := range [][]api.Sample{a, b} {
		if fault := box.CheckSamples(l); fault != api.OK {
			return nil, fault
		}
	}
	if len(a) == 0 || len(b) == 0 {
		return slices.Concat(a, b), api.OK
	}
	by := slices.Max(endsOf(a)) - slices.Min(presentsOf(b))
	joint := slices.Concat(a, movedBy(b, by))
	setSteps(joint)
	if joint[len(a)-1].Step < 0 {
		return nil, api.ErrClash
	}
	return checked(joint)
}

// setSteps makes each Step the difference to the next Time; the last one stays.
func setSteps(l []api.Sample) {
	for i := 1; i < len(l); i++ {
		l[i-1].Step = l[i].Time - l[i-1].Time
	}
}
