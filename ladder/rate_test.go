package ladder_test

import (
	"fmt"
	"math"
	"math/big"
	"math/rand"
	"slices"
	"testing"

	"headend/api"
	"headend/ladder"
)

// spread returns n numbers whose sum is this one, as equal as they can be.
func spread(sum, n int) []int {
	l := make([]int, n)
	for i := range l {
		l[i] = sum*(i+1)/n - sum*i/n
	}
	return l
}

// atBound returns segments whose bits per second are the greatest number / 32: 8 times 194483492287 times 47424961 is 8 (2^63 - 1), over 256.
func atBound() (sizes, longs []int, scale int) {
	return spread(math.MaxInt/47424961, 200), spread(256, 200), 47424961
}

func TestMean(t *testing.T) {
	sizes, longs, scale := atBound()
	for what, c := range map[string]struct {
		sizes, longs []int
		scale        int
		want         api.Ratio
	}{
		"the example":       {[]int{100, 200}, []int{1000, 1000}, 1000, ratio(1200, 1)},
		"one":               {[]int{3}, []int{7}, 5, ratio(120, 7)},
		"in lowest terms":   {[]int{3, 3}, []int{10, 26}, 6, ratio(8, 1)},
		"8 in lowest terms": {[]int{1}, []int{16}, 1, ratio(1, 2)},
		"scale in them":     {[]int{1}, []int{9}, 6, ratio(16, 3)},
		"both in them":      {[]int{10}, []int{3600}, 90, ratio(2, 1)},
		"nothing":           {[]int{0, 0}, []int{5, 7}, 90000, ratio(0, 1)},
		"nothing of one":    {[]int{0, 3}, []int{5, 7}, 1, ratio(2, 1)},
		"the least":         {[]int{1}, []int{api.MaxLong}, 1, ratio(1, api.MaxLong/8)},
		"the least of many": {append(make([]int, api.MaxSegments-1), 1), slices.Repeat([]int{api.MaxLong}, api.MaxSegments), 1, ratio(1, api.MaxSegments*api.MaxLong/8)},
		"the most bytes":    {slices.Repeat([]int{api.MaxBytes}, api.MaxSegments), slices.Repeat([]int{api.MaxLong}, api.MaxSegments), api.MaxScale, ratio(8*api.MaxScale, 1)},
		"more than 64 bits before it is in lowest terms": {slices.Repeat([]int{api.MaxBytes}, api.MaxSegments), slices.Repeat([]int{api.MaxScale}, api.MaxSegments), api.MaxScale - 1, ratio(8*(api.MaxScale-1), 1)},
		"at the bound":               {sizes, longs, scale, ratio(math.MaxInt, 32)},
		"the greatest of one":        {[]int{api.MaxBytes}, []int{1}, api.MaxScale, ratio(8*api.MaxBytes*api.MaxScale, 1)},
		"as a whole, not one by one": {[]int{1, 100}, []int{1, 1000}, 1, ratio(808, 1001)},
	} {
		got, f := ladder.Mean(c.sizes, c.longs, c.scale)
		is(t, "Mean "+what, got, f, c.want)
	}
}

// The number of bits is 2^63, over an odd number of ticks.
func TestBeyondTheBound(t *testing.T) {
	sizes, longs := spread(1<<38, 275), spread(275, 275)
	got, f := ladder.Mean(sizes, longs, 1<<21)
	is(t, "Mean", got, f, ratio(1<<62, 275))
	x, has, f := ladder.Peak(sizes, longs, 1<<21, 275, 275)
	is(t, "Peak", found{x, has}, f, found{ratio(1<<62, 275), true})
	for _, scale := range []int{1 << 22, 1 << 23, api.MaxScale} {
		got, f := ladder.Mean(sizes, longs, scale)
		isNot(t, "Mean", got, f, api.ErrRange)
		x, has, f := ladder.Peak(sizes, longs, scale, 275, 275)
		isNot(t, "Peak", found{x, has}, f, api.ErrRange)
	}
	x, has, f = ladder.Peak(sizes, longs, 1<<22, 276, api.MaxTime) // what is no row has no rate
	is(t, "Peak without a row", found{x, has}, f, found{})
	// only the greatest rate matters: without the first segment, which is one of the least
	want, _ := ratioOf(peakOf(sizes, longs, 1<<22, 274, 275))
	x, has, f = ladder.Peak(sizes, longs, 1<<22, 274, 275)
	is(t, "Peak of a part", found{x, has}, f, found{want, want.Den == 137})
	// over 278 ticks the number is lesser, but so is the rate
	sizes, longs = append(sizes, 0), append(longs, 3)
	x, has, f = ladder.Peak(sizes, longs, 1<<22, 275, 278)
	isNot(t, "Peak of all but one", found{x, has}, f, api.ErrRange)
	x, has, f = ladder.Peak(sizes, longs, 1<<22, 278, 278)
	is(t, "Peak of all", found{x, has}, f, found{ratio(1<<62, 139), true})
}

func TestPeak(t *testing.T) {
	sizes, longs, scale := atBound()
	three, uneven := []int{10, 30, 20}, []int{2, 5, 4}
	for what, c := range map[string]struct {
		sizes, longs     []int
		scale, low, high int
		want             api.Ratio // Den 0: there is none
	}{
		"the example":               {[]int{100, 200}, []int{1000, 1000}, 1000, 1000, 1000, ratio(1600, 1)},
		"one":                       {[]int{3}, []int{7}, 5, 1, 7, ratio(120, 7)},
		"too short":                 {[]int{3}, []int{7}, 5, 8, 9, ratio(0, 0)},
		"too long":                  {[]int{3}, []int{7}, 5, 1, 6, ratio(0, 0)},
		"just as long":              {[]int{3}, []int{7}, 5, 7, 7, ratio(120, 7)},
		"each alone":                {three, uneven, 1, 1, 5, ratio(48, 1)},
		"the shortest alone":        {three, uneven, 1, 1, 2, ratio(40, 1)},
		"none of this length":       {three, uneven, 1, 3, 3, ratio(0, 0)},
		"two":                       {three, uneven, 1, 6, 8, ratio(320, 7)},
		"the last two":              {three, uneven, 1, 8, 10, ratio(400, 9)},
		"all":                       {three, uneven, 1, 10, 11, ratio(480, 11)},
		"all of at most MaxTime":    {three, uneven, 1, 11, api.MaxTime, ratio(480, 11)},
		"longer than all":           {three, uneven, 1, 12, api.MaxTime, ratio(0, 0)},
		"the bounds":                {three, uneven, 1, 1, api.MaxTime, ratio(48, 1)},
		"not side by side":          {[]int{9, 0, 9}, []int{1, 1, 1}, 1, 2, 2, ratio(36, 1)},
		"nothing":                   {[]int{0, 0}, []int{5, 7}, 90000, 1, 100, ratio(0, 1)},
		"a longer one of the same":  {[]int{4, 4, 4}, []int{2, 2, 2}, 1, 2, 6, ratio(16, 1)},
		"in lowest terms":           {[]int{3, 3, 1}, []int{10, 26, 50}, 6, 36, 40, ratio(8, 1)},
		"almost the same":           {[]int{api.MaxBytes - 1, api.MaxBytes, api.MaxBytes - 2}, []int{api.MaxLong - 1, api.MaxLong, api.MaxLong - 2}, 1, 1, api.MaxLong, ratio(8, 1)},
		"by the least there can be": {[]int{api.MaxBytes - 2, api.MaxBytes - 1}, []int{api.MaxLong - 1, api.MaxLong}, 1, 1, api.MaxLong, ratio(api.MaxBytes-1, api.MaxLong/8)},
		"at the bound":              {sizes, longs, scale, 256, 256, ratio(math.MaxInt, 32)},
	} {
		x, has, f := ladder.Peak(c.sizes, c.longs, c.scale, c.low, c.high)
		is(t, "Peak "+what, found{x, has}, f, found{c.want, c.want.Den > 0})
	}
}

func TestSegmentFaults(t *testing.T) {
	most := api.MaxSegments
	for what, c := range map[string]struct {
		sizes, longs []int
		scale        int
		want         api.Fault
	}{
		"none":              {nil, nil, 1, api.ErrNone},
		"none but lengths":  {nil, []int{1}, 0, api.ErrNone},
		"too many":          {make([]int, most+1), make([]int, most+1), 0, api.ErrLarge},
		"too many sizes":    {make([]int, most+1), nil, 0, api.ErrLarge},
		"too few lengths":   {[]int{-1, -1}, []int{0}, 0, api.ErrForm},
		"no lengths":        {[]int{1}, nil, 1, api.ErrForm},
		"too many lengths":  {[]int{1}, make([]int, most+1), 0, api.ErrForm},
		"size below 0":      {[]int{-1}, []int{1}, 1, api.ErrRange},
		"size":              {[]int{1, api.MaxBytes + 1}, []int{1, 1}, 1, api.ErrRange},
		"the greatest size": {[]int{math.MaxInt}, []int{1}, 1, api.ErrRange},
		"length 0":          {[]int{1, 1}, []int{1, 0}, 1, api.ErrRange},
		"length below 0":    {[]int{1}, []int{math.MinInt}, 1, api.ErrRange},
		"length":            {[]int{1}, []int{api.MaxLong + 1}, 1, api.ErrRange},
		"scale 0":           {[]int{1}, []int{1}, 0, api.ErrRange},
		"scale below 0":     {[]int{1}, []int{1}, -1, api.ErrRange},
		"scale":             {[]int{1}, []int{1}, api.MaxScale + 1, api.ErrRange},
	} {
		got, f := ladder.Mean(c.sizes, c.longs, c.scale)
		isNot(t, "Mean "+what, got, f, c.want)
		for _, low := range []int{1, 0} {
			x, has, f := ladder.Peak(c.sizes, c.longs, c.scale, low, 1)
			isNot(t, "Peak "+what, found{x, has}, f, c.want)
		}
	}
	for _, c := range []struct{ low, high int }{
		{0, 1}, {-1, 1}, {2, 1}, {1, 0}, {1, -1}, {-1, -1}, {math.MinInt, math.MaxInt},
		{1, api.MaxTime + 1}, {api.MaxTime + 1, api.MaxTime + 1}, {math.MaxInt, math.MaxInt}, {math.MaxInt, math.MinInt},
	} {
		x, has, f := ladder.Peak([]int{1}, []int{1}, 1, c.low, c.high)
		isNot(t, fmt.Sprint("Peak ", c), found{x, has}, f, api.ErrRange)
	}
}

// peakOf returns the greatest one of the rates of all rows.
func peakOf(sizes, longs []int, scale, low, high int) *big.Rat {
	var best *big.Rat
	for from := range sizes {
		bytes, ticks := 0, 0
		for i := from; i < len(sizes); i++ {
			bytes, ticks = bytes+sizes[i], ticks+longs[i]
			if ticks < low || ticks > high {
				continue
			}
			rate := rat(8*bytes, ticks)
			rate.Mul(rate, rat(scale, 1))
			if best == nil || rate.Cmp(best) > 0 {
				best = rate
			}
		}
	}
	return best
}

// drawSegments returns segments, and their scale: often of the greatest values, or such that the bits have too many bits.
func drawSegments(r *rand.Rand) (sizes, longs []int, scale int) {
	size, long, scale := api.MaxBytes, 3, api.MaxScale-r.Intn(10)
	switch r.Intn(3) {
	case 0:
		size, long, scale = 1+r.Intn(api.MaxBytes)>>r.Intn(30), 1+r.Intn(api.MaxLong)>>r.Intn(30), 1+r.Intn(api.MaxScale)>>r.Intn(30)
	case 1:
		long, scale = api.MaxLong, 1+r.Intn(20)
	}
	for range 1 + r.Intn(8) {
		sizes, longs = append(sizes, r.Intn(size+1)), append(longs, 1+r.Intn(long))
	}
	return sizes, longs, scale
}

func TestManyRates(t *testing.T) {
	r := rand.New(rand.NewSource(9))
	large, none := 0, 0
	for range 4000 {
		sizes, longs, scale := drawSegments(r)
		ticks := 0
		for _, long := range longs {
			ticks += long
		}
		low := 1 + r.Intn(ticks)
		high := low + r.Intn(ticks)
		what := fmt.Sprint(sizes, longs, scale, low, high)
		got, f := ladder.Mean(sizes, longs, scale)
		want, isNumber := ratioOf(peakOf(sizes, longs, scale, ticks, ticks)) // all together are the only row so long
		if !isNumber {
			large++
			isNot(t, "Mean "+what, got, f, api.ErrRange)
		} else {
			is(t, "Mean "+what, got, f, want)
		}
		x, has, f := ladder.Peak(sizes, longs, scale, low, high)
		peak := peakOf(sizes, longs, scale, low, high)
		if peak == nil {
			none++
			is(t, "Peak "+what, found{x, has}, f, found{})
		} else if want, isNumber := ratioOf(peak); isNumber {
			is(t, "Peak "+what, found{x, has}, f, found{want, true})
		} else {
			isNot(t, "Peak "+what, found{x, has}, f, api.ErrRange)
		}
	}
	if large < 100 || none < 100 {
		t.Error("too few", large, none)
	}
}
