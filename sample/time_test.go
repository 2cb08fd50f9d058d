package sample_test

import (
	"fmt"
	"math/rand"
	"slices"
	"testing"

	"headend/api"
	"headend/box"
	"headend/sample"
	"headend/tick"
)

func TestReordered(t *testing.T) {
	for _, c := range []struct {
		presents []int
		last     int
		want     []api.Sample
	}{
		{nil, 0, nil},
		{nil, -1, nil}, // there is no last one
		{[]int{7}, 3, timed(7, 3, 0)},
		{[]int{7}, 0, timed(7, 0, 0)},
		{[]int{0, 30, 10, 20}, 10, timed(-10, 10, 10, 10, 30, 10, 0, 10, 0)},
		{[]int{0, 10, 25}, 5, timed(0, 10, 0, 15, 0, 5, 0)}, // in order: no delay
		{[]int{30, 20, 10}, 1, timed(-10, 10, 40, 10, 20, 1, 0)},
		{[]int{0, 40, 20, 10, 30}, 9, timed(-20, 10, 20, 10, 50, 10, 20, 10, 0, 9, 10)},
		{[]int{-5, 5, 0}, 2, timed(-10, 5, 5, 5, 10, 2, 0)},
		{[]int{api.MaxTime - api.MaxStep}, api.MaxStep, timed(api.MaxTime-api.MaxStep, api.MaxStep, 0)},
		{[]int{-api.MaxTime, 1 - api.MaxTime}, 0, timed(-api.MaxTime, 1, 0, 0, 0)},
	} {
		n := len(c.presents)
		got, f := sample.Reordered(c.presents, c.last, slices.Repeat([]int{1}, n), make([]bool, n))
		is(t, fmt.Sprint("Reordered ", c.presents, c.last), got, f, c.want)
	}
	got, f := sample.Reordered([]int{0, 2, 1}, 1, []int{0, api.MaxSampleSize, 5}, []bool{false, true, false})
	is(t, "Reordered", got, f, []api.Sample{{Time: -1, Step: 1, Shift: 1}, {Time: 0, Step: 1, Shift: 2, Size: api.MaxSampleSize, Key: true}, {Time: 1, Step: 1, Size: 5}})
}

func TestReorderedFaults(t *testing.T) {
	many := make([]int, api.MaxSamples+1)
	for _, c := range []struct {
		presents    []int
		last        int
		sizes, keys int
		want        api.Fault
	}{
		{many, 0, api.MaxSamples + 1, api.MaxSamples + 1, api.ErrLarge},
		{many, 0, 0, 0, api.ErrLarge}, // before the form
		{[]int{1, 2}, 0, 1, 2, api.ErrForm},
		{[]int{1, 2}, 0, 3, 2, api.ErrForm},
		{[]int{1, 2}, 0, 2, 1, api.ErrForm},
		{[]int{1, 2}, 0, 2, 3, api.ErrForm},
		{nil, 0, 1, 0, api.ErrForm},
		{nil, 0, 0, 1, api.ErrForm},
		{[]int{api.MaxTime + 1}, 0, 0, 1, api.ErrForm}, // before the range
		{[]int{api.MaxTime + 1}, 0, 1, 1, api.ErrRange},
		{[]int{-api.MaxTime - 1}, 0, 1, 1, api.ErrRange},
		{[]int{5, 5, api.MaxTime + 1}, 0, 3, 3, api.ErrRange}, // all times come before that two are equal
		{[]int{5, 6, 5}, 0, 3, 3, api.ErrTwice},
		{[]int{5, 5}, 0, 2, 2, api.ErrTwice},
		{[]int{5, 5}, -1, 2, 2, api.ErrTwice}, // before the samples
		{many[:api.MaxSamples], 0, api.MaxSamples, api.MaxSamples, api.ErrTwice},
		{[]int{5}, -1, 1, 1, api.ErrRange},
		{[]int{5}, api.MaxStep + 1, 1, 1, api.ErrRange},
		{[]int{5}, 1<<63 - 1, 1, 1, api.ErrRange},
		{[]int{api.MaxTime}, 1, 1, 1, api.ErrRange},
		{[]int{0, api.MaxStep + 1}, 1, 2, 2, api.ErrRange},                     // a Step
		{[]int{1, api.MaxStep + 1, 0}, 1, 3, 3, api.ErrRange},                  // a Step and a Shift
		{[]int{1 - api.MaxTime, -api.MaxTime}, 0, 2, 2, api.ErrRange},          // a Time
		{[]int{api.MaxTime, -api.MaxTime}, 0, 2, 2, api.ErrRange},              // further away
		{[]int{600000000, 1200000000, 0}, 1, 3, 3, api.ErrRange},               // a Shift, where each Step is good
		{[]int{-api.MaxTime + 1, -api.MaxTime, 5}, 0, 3, 3, api.ErrRange},      // a Time, a Step
		{[]int{api.MaxTime, api.MaxTime - 1}, api.MaxStep, 2, 2, api.ErrRange}, // the end
	} {
		got, f := sample.Reordered(c.presents, c.last, make([]int, c.sizes), make([]bool, c.keys))
		isNot(t, fmt.Sprint("Reordered ", short(c.presents), c.last, c.sizes, c.keys), got, f, c.want)
	}
	for _, size := range []int{-1, api.MaxSampleSize + 1} {
		got, f := sample.Reordered([]int{1}, 1, []int{size}, make([]bool, 1))
		isNot(t, "Reordered", got, f, api.ErrRange)
	}
}

// delayOf returns the least d, one after another.
func delayOf(times []int) int {
	s := slices.Sorted(slices.Values(times))
	for d := 0; ; d++ {
		late := false
		for i := range s {
			late = late || s[i]-d > times[i]
		}
		if !late {
			return d
		}
	}
}

func TestManyReordered(t *testing.T) {
	r := rand.New(rand.NewSource(5))
	for range 2000 {
		times := r.Perm(1 + r.Intn(9))
		for i := range times {
			times[i] = 3*times[i] - 5 + r.Intn(3)
		}
		s, d := slices.Sorted(slices.Values(times)), delayOf(times)
		var want []api.Sample
		sizes, keys := make([]int, len(times)), make([]bool, len(times))
		for i, n := range times {
			sizes[i], keys[i] = r.Intn(9), r.Intn(2) == 0
			step := 4
			if i+1 < len(s) {
				step = s[i+1] - s[i]
			}
			want = append(want, api.Sample{Time: s[i] - d, Step: step, Shift: n - s[i] + d, Size: sizes[i], Key: keys[i]})
		}
		got, f := sample.Reordered(times, 4, sizes, keys)
		is(t, fmt.Sprint("Reordered ", times), got, f, want)
		// the least delay leaves a Shift of 0, so that these samples are tight
		tight, by, f := sample.Tight(got)
		is(t, "Tight of Reordered", tight, f, want)
		is(t, "Tight of Reordered", by, f, 0)
	}
}

func TestTight(t *testing.T) {
	for _, c := range []struct {
		l    []api.Sample
		by   int
		want []api.Sample
	}{
		{nil, 0, nil},
		{timed(5, 3, 0), 0, timed(5, 3, 0)},
		{timed(5, 3, 7), 7, timed(12, 3, 0)},
		{timed(5, 3, -7), -7, timed(-2, 3, 0)},
		{timed(5, 0, 4, 0, 9), 4, timed(9, 0, 0, 0, 5)},
		{group(0, 1), 0, group(0, 1)},
		{keyed(timed(0, 2, 5, 3, 3, 4, 4), 1), 3, keyed(timed(3, 2, 2, 3, 0, 4, 1), 1)},
		{timed(0, 2, 5, 3, -3, 4, 0), -3, timed(-3, 2, 8, 3, 0, 4, 3)},
		{timed(0, 1, api.MaxStep), api.MaxStep, timed(api.MaxStep, 1, 0)},
		{timed(0, 1, -api.MaxStep), -api.MaxStep, timed(-api.MaxStep, 1, 0)},
		{timed(api.MaxTime-10, 2, 8), 8, timed(api.MaxTime-2, 2, 0)},
	} {
		got, by, f := sample.Tight(c.l)
		is(t, fmt.Sprint("Tight ", c.l), got, f, c.want)
		is(t, fmt.Sprint("Tight ", c.l), by, f, c.by)
	}
	for _, l := range [][]api.Sample{
		timed(0, 1, -1, 1, api.MaxStep), // a Shift of MaxStep + 1
		timed(0, 1, -api.MaxStep, 1, api.MaxStep),
		timed(-api.MaxTime, 1, -1),
		timed(api.MaxTime-1, 1, 1), // the end
		timed(api.MaxTime, 0, 1),
	} {
		got, by, f := sample.Tight(l)
		isNot(t, fmt.Sprint("Tight ", l), got, f, api.ErrRange)
		isNot(t, fmt.Sprint("Tight ", l), by, f, api.ErrRange)
	}
}

func TestManyTight(t *testing.T) {
	r := rand.New(rand.NewSource(6))
	for range 2000 {
		l := draw(r, 8)
		got, by, f := sample.Tight(l)
		want := slices.Clone(l)
		least := 1
		for i := range want {
			want[i].Time += by
			want[i].Shift -= by
			if i == 0 || want[i].Shift < least {
				least = want[i].Shift
			}
		}
		is(t, fmt.Sprint("Tight ", l), got, f, want)
		if len(l) > 0 && least != 0 || len(l) == 0 && by != 0 {
			t.Error("Tight", l, got, by)
		}
	}
}

func TestStraight(t *testing.T) {
	for _, c := range []struct {
		l           []api.Sample
		step, slack int
		want        []api.Sample
	}{
		{nil, 1, 0, nil},
		{timed(5, 3, 1), 10, 2, timed(5, 3, 1)},
		// the Times 0, 11, 19, 40 of T7
		{timed(0, 11, 0, 8, 0, 21, 0, 5, 0), 10, 2, timed(0, 10, 0, 10, 1, 20, -1, 5, 0)},
		{timed(0, 11, 0, 8, 0, 21, 0, 5, 0), 10, 0, timed(0, 11, 0, 8, 0, 21, 0, 5, 0)},
		{keyed(timed(100, 9, 30, 12, 10, 9, 20), 0, 2), 10, 1, keyed(timed(100, 10, 30, 10, 9, 9, 21), 0, 2)},
		{timed(0, 13, 0, 10, 0, 10, 0), 10, 2, timed(0, 13, 0, 10, 0, 10, 0)}, // a new grid from 13 on
		{timed(0, 13, 0, 11, 0, 10, 0), 10, 2, timed(0, 13, 0, 10, 0, 10, 1)},
		{timed(0, 0, 0, 0, 0), 10, 5, timed(0, 0, 0, 0, 0)},
		{timed(-api.MaxTime, 1, 0, 0, 0), api.MaxTime, 0, timed(-api.MaxTime, 1, 0, 0, 0)},
		{timed(0, 1, 3, 5, 3), 1, api.MaxTime, timed(0, 1, 3, 5, 3)},
	} {
		got, f := sample.Straight(c.l, c.step, c.slack)
		is(t, fmt.Sprint("Straight ", c.l, c.step, c.slack), got, f, c.want)
	}
}

func TestStraightFaults(t *testing.T) {
	for _, c := range []struct {
		l           []api.Sample
		step, slack int
		want        api.Fault
	}{
		{nil, 0, 0, api.ErrRange},
		{nil, api.MaxTime + 1, 0, api.ErrRange},
		{nil, 1, -1, api.ErrRange},
		{nil, 1, api.MaxTime + 1, api.ErrRange},
		{timed(0, 1, 0), 0, 0, api.ErrRange},
		// MaxTime - 2 goes to MaxTime + 2
		{timed(api.MaxTime-8, 6, 0, 0, 0), 10, 4, api.ErrRange},
		{timed(0, 9, 0, 0, 0, 5, 0), 10, 1, api.ErrClash}, // 0, 10, 9
		{timed(0, 9, 0, 0, 0, 9, 0), 10, 1, api.ErrClash},
		{timed(0, 9, api.MaxStep, 0, -api.MaxStep, 5, 0), 10, 1, api.ErrClash}, // before the Shift
		{timed(0, 9, 0, 1, -api.MaxStep, 5, 0), 10, 1, api.ErrRange},           // a Shift below the least one
		{timed(0, 11, 0, 9, api.MaxStep), 10, 1, api.ErrRange},                 // a Shift above the greatest one
		{timed(0, api.MaxStep, 0, 0, 0), api.MaxStep + 1, 1, api.ErrRange},     // a Step
		{timed(api.MaxTime-20, 9, 0, 11, 0), 10, 1, api.ErrRange},              // the end
	} {
		got, f := sample.Straight(c.l, c.step, c.slack)
		isNot(t, fmt.Sprint("Straight ", c.l, c.step, c.slack), got, f, c.want)
	}
}

func TestManyStraight(t *testing.T) {
	r := rand.New(rand.NewSource(7))
	clashes := 0
	for range 5000 {
		l := draw(r, 8)
		step, slack := 1+r.Intn(8), r.Intn(4)
		what := fmt.Sprint("Straight ", l, step, slack)
		var times []int
		for _, s := range l {
			times = append(times, s.Time)
		}
		times, _ = tick.Regular(times, step, slack)
		got, f := sample.Straight(l, step, slack)
		if !slices.IsSorted(times) {
			isNot(t, what, got, f, api.ErrClash)
			clashes++
			continue
		}
		want := slices.Clone(l)
		for i, n := range times {
			want[i].Time, want[i].Shift = n, l[i].Time+l[i].Shift-n
			if i > 0 {
				want[i-1].Step = n - times[i-1]
			}
		}
		is(t, what, got, f, want)
		if box.CheckSamples(got) != api.OK {
			t.Error(what)
		}
	}
	if clashes == 0 {
		t.Error("no clashes")
	}
}
