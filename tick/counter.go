package tick

import (
	"headend/api"
	"headend/check"
)

// Bits that a counter can have.
const (
	leastBits = 2
	mostBits  = 48
)

func checkCounters(l []int, bits int) api.Fault {
	if !check.Within(bits, leastBits, mostBits) {
		return api.ErrRange
	}
	if len(l) > api.MaxTimes {
		return api.ErrLarge
	}
	return api.OK
}

// Wrap returns each time modulo 2^bits.
func Wrap(l []int, bits int) ([]int, api.Fault) {
	if f := checkCounters(l, bits); f != api.OK {
		return nil, f
	}
	top := 1<<bits - 1
	counters := make([]int, len(l))
	for i, n := range l {
		if !check.IsTime(n) {
			return nil, api.ErrRange
		}
		counters[i] = n & top
	}
	return counters, api.OK
}

// Unwrap returns the times with these counters that are, one after the other, nearest to the one before.
func Unwrap(l []int, bits int) ([]int, api.Fault) {
	if f := checkCounters(l, bits); f != api.OK {
		return nil, f
	}
	top := 1<<bits - 1
	half := 1 << (bits - 1)
	times := make([]int, len(l))
	for i, counter := range l {
		if !check.Within(counter, 0, top) {
			return nil, api.ErrRange
		}
		times[i] = counter
		if i > 0 {
			before := times[i-1]
			times[i] = before - half + (counter-before+half)&top
		}
		if !check.IsTime(times[i]) {
			return nil, api.ErrRange
		}
	}
	return times, api.OK
}
