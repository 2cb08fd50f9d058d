package sample

import (
	"headend/api"
	"headend/box"
	"headend/check"
)

// roundedUp returns n / by, with n from 0 on.
func roundedUp(n, by int) int { return (n + by - 1) / by }

// Mean returns the bytes per second of a parcel.
func Mean(p api.Parcel) (int, api.Fault) {
	if fault := checkParcel(p); fault != api.OK {
		return 0, fault
	}
	ticks := 0
	for _, s := range p.Samples {
		ticks += s.Step
	}
	if ticks == 0 {
		return 0, api.ErrZero
	}
	return roundedUp(box.BytesOf(p.Samples)*p.Scale, ticks), api.OK
}

// Peak returns the greatest number of bytes that samples have together that are decoded in a span of so many ticks.
func Peak(p api.Parcel, window int) (int, api.Fault) {
	if fault := checkParcel(p); fault != api.OK {
		return 0, fault
	}
	if !check.Within(window, 1, api.MaxTicks) {
		return 0, api.ErrRange
	}
	peak, bytes, first := 0, 0, 0
	for _, s := range p.Samples {
		bytes += s.Size
		for ; s.Time-p.Samples[first].Time >= window; first++ {
			bytes -= p.Samples[first].Size
		}
		peak = max(peak, bytes)
	}
	return peak, api.OK
}
