package ladder

import (
	"math"
	"math/bits"

	"headend/api"
)

// lowest returns num / den in lowest terms, with num from 0 on and den above 0.
func lowest(num, den int) api.Ratio {
	common := den
	for rest := num; rest > 0; {
		common, rest = rest, common%rest
	}
	return api.Ratio{Num: num / common, Den: den / common}
}

// times returns a ratio times n, or false, if its Num has too many bits.
func times(r api.Ratio, n int) (api.Ratio, bool) {
	by := lowest(n, r.Den) // what is left of Den has nothing in common with either factor
	high, low := bits.Mul64(uint64(r.Num), uint64(by.Num))
	if high > 0 || low > math.MaxInt {
		return api.Ratio{}, false
	}
	return api.Ratio{Num: int(low), Den: by.Den}, true
}
