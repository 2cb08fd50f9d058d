package tick_test

import (
	"math"
	"math/big"
	"testing"

	"headend/api"
	"headend/tick"
)

// fraction returns the sum of ticks, divided by their scale.
func fraction(scale int, ticks ...int) *big.Rat {
	sum := new(big.Int)
	for _, n := range ticks {
		sum.Add(sum, big.NewInt(int64(n)))
	}
	return new(big.Rat).SetFrac(sum, big.NewInt(int64(scale)))
}

func TestMoments(t *testing.T) {
	for _, c := range []struct {
		a, b tick.Moment
		want int
	}{
		{tick.MomentOf(1, 2), tick.MomentOf(3, 6), 0},
		{tick.MomentOf(3, 1), tick.MomentOf(2, 1), -1},
		{tick.MomentOf(2, 1), tick.MomentOf(3, 1), 1},
		{tick.MomentOf(3, -1), tick.MomentOf(2, -1), 1},
		{tick.MomentOf(2, -1), tick.MomentOf(3, -1), -1},
		{tick.MomentOf(2, -1), tick.MomentOf(2, 0), -1},
		{tick.MomentOf(7), tick.MomentOf(3, 5, -5), 0},
		{tick.MomentOf(1, math.MaxInt, math.MaxInt, math.MaxInt, math.MaxInt), tick.MomentOf(1, math.MaxInt, math.MaxInt, math.MaxInt, math.MaxInt-1), 1},
		{tick.MomentOf(1, math.MinInt, math.MinInt, math.MinInt, math.MinInt), tick.MomentOf(1, math.MinInt, math.MinInt, math.MinInt, math.MinInt+1), -1},
		{tick.MomentOf(1, math.MaxInt, 1), tick.MomentOf(2, math.MaxInt, 1, math.MaxInt, 1), 0},
	} {
		if got := c.a.Compare(c.b); got != c.want {
			t.Error("Compare", c.a, c.b, got)
		}
	}
}

// All pairs of moments of some numbers, against fractions.
func TestManyMoments(t *testing.T) {
	ticks := []int{math.MinInt, -api.MaxTime - 1, -api.MaxTime, -4, -3, -1, 0, 1, 3, 4, api.MaxScale, api.MaxTime - 1, api.MaxTime, math.MaxInt}
	scales := []int{1, 2, 3, 7, api.MaxScale - 1, api.MaxScale}
	var moments []tick.Moment
	var exact []*big.Rat
	for _, scale := range scales {
		for _, a := range ticks {
			for _, b := range ticks {
				moments = append(moments, tick.MomentOf(scale, a, b))
				exact = append(exact, fraction(scale, a, b))
			}
		}
	}
	for i, m := range moments {
		for k, other := range moments {
			if got, want := m.Compare(other), exact[i].Cmp(exact[k]); got != want {
				t.Error("Compare", exact[i], exact[k], got)
			}
		}
	}
}
