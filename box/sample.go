package box

import "headend/api"

// CheckSamples validates samples.
func CheckSamples(l []api.Sample) api.Fault {
	if len(l) > api.MaxSamples {
		return api.ErrLarge
	}
	for i, s := range l {
		fault := firstFault(
			faultIf(!isTime(s.Time), api.ErrRange),
			faultIf(!within(s.Step, 0, api.MaxStep), api.ErrRange),
			faultIf(!within(s.Shift, -api.MaxStep, api.MaxStep), api.ErrRange),
			faultIf(!within(s.Size, 0, api.MaxSampleSize), api.ErrRange),
			faultIf(i > 0 && s.Time != endOf(l[:i]), api.ErrOrder),
		)
		if fault != api.OK {
			return fault
		}
	}
	return faultIf(!isTime(endOf(l)), api.ErrRange)
}

// endOf returns the time after the last sample, or 0, if there is none.
func endOf(l []api.Sample) int {
	if len(l) == 0 {
		return 0
	}
	last := l[len(l)-1]
	return last.Time + last.Step
}

// bytesOf returns how many bytes samples have together.
func bytesOf(l []api.Sample) int {
	n := 0
	for _, s := range l {
		n += s.Size
	}
	return n
}
