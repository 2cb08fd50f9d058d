package sample

import (
	"headend/api"
	"headend/box"
	"headend/check"
)

// eachTaken calls a function with the ticks from the first sample to each one, and with the bytes before it, and up to it.
func eachTaken(p api.Parcel, call func(ticks, before, bytes int)) {
	before := 0
	for _, s := range p.Samples {
		call(s.Time-p.Samples[0].Time, before, before+s.Size)
		before += s.Size
	}
}

// arrivals returns a function that says how many bytes of a parcel have arrived up to a moment.
func arrivals(p api.Parcel, rate int) func(at int) int {
	all := box.BytesOf(p.Samples)
	end := roundedUp(all*p.Scale, rate)
	return func(at int) int {
		if at >= end { // also where rate times at has more than 64 bits
			return all
		}
		return rate * at / p.Scale
	}
}

// leastDelay returns the least delay with which each sample has arrived when it is taken.
func leastDelay(p api.Parcel, rate int) int {
	delay := 0
	eachTaken(p, func(ticks, _, bytes int) {
		delay = max(delay, roundedUp(bytes*p.Scale, rate)-ticks)
	})
	return delay
}

// Delay returns the least delay, in ticks, with which a parcel can be taken that arrives at a rate.
func Delay(p api.Parcel, rate int) (int, api.Fault) {
	if fault := checkParcel(p); fault != api.OK {
		return 0, fault
	}
	if !check.Within(rate, 1, api.MaxRate) {
		return 0, api.ErrRange
	}
	delay := leastDelay(p, rate)
	if delay > api.MaxTicks {
		return 0, api.ErrRange
	}
	return delay, api.OK
}

// Fullness returns the greatest number of bytes that wait, directly before a sample is taken.
func Fullness(p api.Parcel, rate, delay int) (int, api.Fault) {
	if fault := checkParcel(p); fault != api.OK {
		return 0, fault
	}
	if !check.Within(rate, 1, api.MaxRate) || !check.Within(delay, 0, api.MaxTicks) {
		return 0, api.ErrRange
	}
	if delay < leastDelay(p, rate) {
		return 0, api.ErrState
	}
	fullness := 0
	arrived := arrivals(p, rate)
	eachTaken(p, func(ticks, before, _ int) {
		fullness = max(fullness, arrived(delay+ticks)-before)
	})
	return fullness, api.OK
}

// LeastRate returns the least rate, in bytes per second, with which a parcel can be taken with a delay.
func LeastRate(p api.Parcel, delay int) (int, api.Fault) {
	if fault := checkParcel(p); fault != api.OK {
		return 0, fault
	}
	if !check.Within(delay, 0, api.MaxTicks) {
		return 0, api.ErrRange
	}
	rate := 0
	eachTaken(p, func(ticks, _, bytes int) {
		at := delay + ticks
		switch {
		case bytes == 0: // nothing has to arrive
		case at == 0:
			rate = api.MaxRate + 1 // nothing has arrived at moment 0, whatever the rate
		default:
			rate = max(rate, roundedUp(bytes*p.Scale, at))
		}
	})
	if rate > api.MaxRate {
		return 0, api.ErrRange
	}
	return rate, api.OK
}
