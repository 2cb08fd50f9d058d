package box

import (
	"headend/api"
	"headend/check"
)

// CheckSamples validates samples.
func CheckSamples(l []api.Sample) api.Fault {
	if len(l) > api.MaxSamples {
		return api.ErrLarge
	}
	for i, s := range l {
		fault := check.First(
			check.If(!check.IsTime(s.Time), api.ErrRange),
			check.If(!check.Within(s.Step, 0, api.MaxStep), api.ErrRange),
			check.If(!check.Within(s.Shift, -api.MaxStep, api.MaxStep), api.ErrRange),
			check.If(!check.Within(s.Size, 0, api.MaxSampleSize), api.ErrRange),
			check.If(i > 0 && s.Time != endOf(l[:i]), api.ErrOrder),
		)
		if fault != api.OK {
			return fault
		}
	}
	return check.If(!check.IsTime(endOf(l)), api.ErrRange)
}

// endOf returns the time after the last sample, or 0, if there is none.
func endOf(l []api.Sample) int {
	if len(l) == 0 {
		return 0
	}
	last := l[len(l)-1]
	return last.Time + last.Step
}

// BytesOf returns how many bytes samples have together.
func BytesOf(l []api.Sample) int {
	n := 0
	for _, s := range l {
		n += s.Size
	}
	return n
}
