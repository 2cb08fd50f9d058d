package ladder

import (
	"math/bits"

	"headend/api"
	"headend/check"
)

const bitsOfByte = 8

// row is how many bytes and ticks segments have together that follow one another.
type row struct{ bytes, ticks int }

// fasterThan says whether a row has more bytes for each tick than another one.
func (r row) fasterThan(other row) bool {
	high, low := bits.Mul64(uint64(r.bytes), uint64(other.ticks))
	otherHigh, otherLow := bits.Mul64(uint64(other.bytes), uint64(r.ticks))
	return high > otherHigh || high == otherHigh && low > otherLow
}

// rate returns the bits per second of a row.
func (r row) rate(scale int) (api.Ratio, api.Fault) {
	rate, isNumber := times(lowest(bitsOfByte*r.bytes, r.ticks), scale)
	if !isNumber {
		return api.Ratio{}, api.ErrRange
	}
	return rate, api.OK
}

// checkSegments validates sizes and lengths of segments, and the scale of these.
func checkSegments(sizes, longs []int, scale int) api.Fault {
	if len(sizes) == 0 {
		return api.ErrNone
	}
	if len(sizes) > api.MaxSegments {
		return api.ErrLarge
	}
	if len(longs) != len(sizes) {
		return api.ErrForm
	}
	for i, size := range sizes {
		if !check.Within(size, 0, api.MaxBytes) || !check.Within(longs[i], 1, api.MaxLong) {
			return api.ErrRange
		}
	}
	return check.If(!check.IsScale(scale), api.ErrRange)
}

// Mean returns the bits per second of segments.
func Mean(sizes, longs []int, scale int) (api.Ratio, api.Fault) {
	if fault := checkSegments(sizes, longs, scale); fault != api.OK {
		return api.Ratio{}, fault
	}
	return row{bytes: sumOf(sizes), ticks: sumOf(longs)}.rate(scale)
}

// Peak returns the greatest number of bits per second of segments that follow one another and are from low to high ticks long together, if there are any.
func Peak(sizes, longs []int, scale, low, high int) (api.Ratio, bool, api.Fault) {
	fault := check.First(
		checkSegments(sizes, longs, scale),
		check.If(!check.Within(low, 1, high), api.ErrRange),
		check.If(high > api.MaxTime, api.ErrRange),
	)
	if fault != api.OK {
		return api.Ratio{}, false, fault
	}
	peak, found := row{}, false
	for from := range sizes {
		r := row{}
		for i := from; i < len(sizes) && r.ticks+longs[i] <= high; i++ {
			r.bytes, r.ticks = r.bytes+sizes[i], r.ticks+longs[i]
			if r.ticks >= low && (!found || r.fasterThan(peak)) {
				peak, found = r, true
			}
		}
	}
	if !found {
		return api.Ratio{}, false, api.OK
	}
	rate, fault := peak.rate(scale)
	return rate, fault == api.OK, fault
}
