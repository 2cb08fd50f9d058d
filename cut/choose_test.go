package cut_test

import (
	"fmt"
	"math"
	"math/rand"
	"slices"
	"testing"

	"headend/api"
	"headend/cut"
)

const mostTicks = 50000000 // of Target and Most

func wish(target, most int) api.Wish { return api.Wish{Scale: 1, Target: target, Most: most} }

// every returns n times from one on.
func every(n, from, step int) []int {
	var l []int
	for i := range n {
		l = append(l, from+i*step)
	}
	return l
}

func TestChoose(t *testing.T) {
	for _, c := range []struct {
		places       []int
		end          int
		target, most int
		want         []int
		sum          int
	}{
		{[]int{0, 4, 7, 10, 13}, 20, 6, 8, []int{0, 7, 13}, 2},
		{[]int{0}, 20, 20, 20, []int{0}, 0},
		{[]int{0}, 20, 1, 20, []int{0}, 361},
		{[]int{5}, 6, 10, 10, []int{5}, 81},
		{[]int{-30, -20}, -10, 10, 10, []int{-30, -20}, 0},
		{[]int{0, 10}, 20, 10, 19, []int{0, 10}, 0},
		{[]int{0, 10}, 20, 20, 20, []int{0}, 0},
		{[]int{0, 10}, 20, 14, 20, []int{0, 10}, 32},
		// of equal sums the fewest boundaries: 6 and 3 + 3 at 4 drift by 2, and by 1 and 1
		{[]int{0, 3}, 6, 4, 6, []int{0, 3}, 2},
		{[]int{0, 4}, 12, 10, 20, []int{0}, 4},
		{[]int{0, 1, 2}, 3, 2, 3, []int{0}, 1},
		{[]int{0, 2, 4}, 7, 3, 9, []int{0, 4}, 1}, // not 0, 2, 4 with 1 + 1 + 0
		{[]int{0, 1}, 3, 2, 3, []int{0}, 1},       // 1 and 2 drift by 1 and 0, 3 by 1
		// of as many boundaries the least list
		{[]int{0, 2, 3}, 5, 3, 4, []int{0, 2}, 1},
		{[]int{0, 2, 3, 5, 6}, 8, 3, 4, []int{0, 2, 5}, 1},
		{[]int{0, 1, 2, 3, 4}, 5, 2, 2, []int{0, 1, 3}, 1},
		{[]int{0, 4, 5, 9, 10, 14, 15}, 19, 5, 6, []int{0, 4, 9, 14}, 1},
		// what fits best at first, or at last, does not fit best together
		{[]int{0, 5, 7}, 15, 5, 8, []int{0, 7}, 13},
		{[]int{0, 8, 10}, 15, 5, 12, []int{0, 8}, 13},
		{[]int{0, 4, 12}, 20, 4, 8, []int{0, 4, 12}, 32},
		{[]int{0, 5, 9}, 18, 5, 9, []int{0, 5, 9}, 17},
		// the greatest and the least values
		{[]int{-api.MaxTime}, mostTicks - api.MaxTime, 1, mostTicks, []int{-api.MaxTime}, (mostTicks - 1) * (mostTicks - 1)},
		{[]int{api.MaxTime - 1}, api.MaxTime, mostTicks, mostTicks, []int{api.MaxTime - 1}, (mostTicks - 1) * (mostTicks - 1)},
		{every(api.MaxCuts, 0, mostTicks), api.MaxCuts * mostTicks, 1, mostTicks, every(api.MaxCuts, 0, mostTicks), api.MaxCuts * (mostTicks - 1) * (mostTicks - 1)},
		{every(api.MaxCuts, 0, 1), api.MaxCuts, 1, mostTicks, every(api.MaxCuts, 0, 1), 0},
		{every(api.MaxCuts, 0, 1), api.MaxCuts, 10, mostTicks, every(api.MaxCuts/10, 0, 10), 0},
	} {
		w := wish(c.target, c.most)
		got, sum, f := cut.Choose(c.places, c.end, w)
		is(t, fmt.Sprint("Choose ", short(c.places), c.end, w), got, f, c.want)
		is(t, fmt.Sprint("sum of Choose ", short(c.places), c.end, w), sum, f, c.sum)
	}
}

// badPlaces are places and wishes that Choose and Grid do not take.
var badPlaces = []struct {
	places []int
	w      api.Wish
	want   api.Fault
}{
	{nil, api.Wish{Scale: 0, Target: 1, Most: 1}, api.ErrRange},
	{nil, api.Wish{Scale: api.MaxScale + 1, Target: 1, Most: 1}, api.ErrRange},
	{nil, wish(0, 1), api.ErrRange},
	{nil, wish(-1, 1), api.ErrRange},
	{nil, wish(mostTicks+1, mostTicks+1), api.ErrRange},
	{nil, wish(5, 4), api.ErrRange},
	{nil, wish(5, mostTicks+1), api.ErrRange},
	{nil, wish(5, math.MinInt), api.ErrRange},
	{make([]int, api.MaxCuts+1), wish(5, 4), api.ErrRange}, // the wish comes before the places
	{nil, wish(5, 5), api.ErrNone},
	{make([]int, api.MaxCuts+1), wish(5, 5), api.ErrLarge},
	{every(api.MaxCuts+1, 0, 1), wish(5, 5), api.ErrLarge},
	{[]int{api.MaxTime + 1}, wish(5, 5), api.ErrRange},
	{[]int{-api.MaxTime - 1}, wish(5, 5), api.ErrRange},
	{[]int{0, api.MaxTime + 1, 0}, wish(5, 5), api.ErrRange},
	{[]int{0, math.MinInt}, wish(5, 5), api.ErrRange}, // the range of a place comes before its order
	{[]int{0, 0}, wish(5, 5), api.ErrOrder},
	{[]int{1, 0}, wish(5, 5), api.ErrOrder},
	{[]int{1, 0, api.MaxTime + 1}, wish(5, 5), api.ErrOrder}, // place by place
}

func TestPlacesFaults(t *testing.T) {
	for _, c := range badPlaces {
		what := fmt.Sprint(short(c.places), c.w)
		for _, end := range []int{-1, 10, api.MaxTime + 1} { // the end comes last
			got, sum, f := cut.Choose(c.places, end, c.w)
			isNot(t, "Choose "+what, got, f, c.want)
			isNot(t, "sum of Choose "+what, sum, f, c.want)
		}
		got, f := cut.Grid(c.places, c.w)
		isNot(t, "Grid "+what, got, f, c.want)
	}
}

func TestChooseEnds(t *testing.T) {
	const whole = 1000000000000 // more than this is too much
	for _, c := range []struct {
		places []int
		end    int
		want   api.Fault
	}{
		{[]int{0, 5}, api.MaxTime + 1, api.ErrRange},
		{[]int{0, 5}, -api.MaxTime - 1, api.ErrRange},
		{[]int{0, 5}, math.MinInt, api.ErrRange},
		{[]int{0, 5}, 5, api.ErrOrder},
		{[]int{0, 5}, 3, api.ErrOrder},
		{[]int{0, 5}, -api.MaxTime, api.ErrOrder},
		{[]int{0, whole + 1}, whole + 1, api.ErrOrder}, // the order comes before the length
		{[]int{0, 5}, whole + 1, api.ErrRange},
		{[]int{0, whole}, whole + 1, api.ErrRange},
		{[]int{-api.MaxTime}, api.MaxTime, api.ErrRange},
		{[]int{0, 5}, whole, api.ErrNone},
		{[]int{-api.MaxTime, 5 - api.MaxTime}, whole - api.MaxTime, api.ErrNone},
		{[]int{0}, 11, api.ErrNone},
		{[]int{0, 11}, 12, api.ErrNone}, // at the beginning
		{[]int{0, 5}, 16, api.ErrNone},  // at the end
		{[]int{0, 5, 16}, 20, api.ErrNone},
	} {
		w := wish(5, 10)
		got, sum, f := cut.Choose(c.places, c.end, w)
		isNot(t, fmt.Sprint("Choose ", c.places, c.end), got, f, c.want)
		isNot(t, fmt.Sprint("sum of Choose ", c.places, c.end), sum, f, c.want)
	}
}

// bestOf returns the best boundaries out of all choices, one after another, and their sum.
func bestOf(places []int, end int, w api.Wish) (best []int, least int) {
	for choice := range 1 << (len(places) - 1) {
		bounds := places[:1:1]
		for i, place := range places[1:] {
			if choice>>i&1 == 1 {
				bounds = append(bounds, place)
			}
		}
		sum, good := 0, true
		for i, bound := range bounds {
			next := end
			if i+1 < len(bounds) {
				next = bounds[i+1]
			}
			good = good && next-bound <= w.Most
			sum += (next - bound - w.Target) * (next - bound - w.Target)
		}
		better := best == nil || sum < least
		if !better && sum == least {
			better = len(bounds) < len(best) || len(bounds) == len(best) && slices.Compare(bounds, best) < 0
		}
		if good && better {
			best, least = bounds, sum
		}
	}
	return best, least
}

// drawPlaces returns from one to most increasing places.
func drawPlaces(r *rand.Rand, most int) []int {
	l := []int{r.Intn(20) - 10}
	width := 1 + r.Intn(6)
	for range r.Intn(most) {
		l = append(l, l[len(l)-1]+1+r.Intn(width))
	}
	return l
}

func TestManyChoose(t *testing.T) {
	r := rand.New(rand.NewSource(3))
	none := 0
	for range 4000 {
		places := drawPlaces(r, 10)
		end := places[len(places)-1] + 1 + r.Intn(6)
		w := wish(1+r.Intn(8), 8+r.Intn(4))
		what := fmt.Sprint("Choose ", places, end, w)
		want, least := bestOf(places, end, w)
		got, sum, f := cut.Choose(places, end, w)
		if want == nil {
			none++
			isNot(t, what, got, f, api.ErrNone)
			isNot(t, what, sum, f, api.ErrNone)
			continue
		}
		is(t, what, got, f, want)
		is(t, what, sum, f, least)
	}
	if none > 1000 {
		t.Error("too few choices", none)
	}
}

func TestGrid(t *testing.T) {
	for _, c := range []struct {
		places []int
		target int
		want   []int
	}{
		{[]int{0, 4, 7, 10, 13}, 6, []int{0, 7, 13}},
		{[]int{0}, 6, []int{0}},
		{[]int{0, 5}, 6, []int{0}},
		{[]int{0, 6}, 6, []int{0, 6}},
		{[]int{10, 15, 16, 21, 22}, 6, []int{10, 16, 22}},
		{[]int{-20, -14, -8}, 6, []int{-20, -14, -8}},
		// after a gap all that are left for the multiples that were passed
		{[]int{0, 30, 31, 32, 33, 34, 35}, 6, []int{0, 30, 31, 32, 33, 34}},
		{[]int{0, 30, 31, 40}, 6, []int{0, 30, 31, 40}},
		{[]int{0, 6, 13, 18, 19, 24}, 6, []int{0, 6, 13, 18, 24}}, // no drift: 18 is not 19
		{[]int{0, 1, 2, 3}, 1, []int{0, 1, 2, 3}},
		{[]int{-api.MaxTime, api.MaxTime}, mostTicks, []int{-api.MaxTime, api.MaxTime}},
		{every(api.MaxCuts, api.MaxTime-api.MaxCuts+1, 1), 999, []int{api.MaxTime - api.MaxCuts + 1, api.MaxTime}},
		{every(api.MaxCuts, 0, mostTicks), mostTicks, every(api.MaxCuts, 0, mostTicks)},
	} {
		for _, most := range []int{c.target, mostTicks} { // Most does not matter
			got, f := cut.Grid(c.places, wish(c.target, most))
			is(t, fmt.Sprint("Grid ", short(c.places), c.target), got, f, c.want)
		}
	}
}

// Multiple by multiple, with a mark on each place that was returned.
func TestManyGrid(t *testing.T) {
	r := rand.New(rand.NewSource(4))
	for range 4000 {
		places := drawPlaces(r, 20)
		if r.Intn(2) == 0 {
			places = append(places, every(4, places[len(places)-1]+20, 1)...)
		}
		w := wish(1+r.Intn(8), 8)
		returned := map[int]bool{}
		want := []int{places[0]}
		for k := 1; ; k++ {
			i := slices.IndexFunc(places, func(n int) bool { return n >= places[0]+k*w.Target && !returned[n] })
			if i < 0 {
				break
			}
			returned[places[i]] = true
			want = append(want, places[i])
		}
		got, f := cut.Grid(places, w)
		is(t, fmt.Sprint("Grid ", places, w), got, f, want)
	}
}
