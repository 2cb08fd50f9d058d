package tick_test

import (
	"fmt"
	"math"
	"math/big"
	"math/rand"
	"testing"

	"headend/api"
	"headend/tick"
)

func TestFrameTime(t *testing.T) {
	for _, c := range []struct{ frame, frames, seconds, scale, want int }{
		{0, 30000, 1001, 90000, 0},
		{1, 30000, 1001, 90000, 3003},
		{2, 30000, 1001, 90000, 6006},
		{1, 3, 1, 10, 3},
		{2, 3, 1, 10, 6}, // 6 and two thirds, rounded down
		{3, 3, 1, 10, 10},
		{1, 24, 1, 1, 0},
		{23, 24, 1, 1, 0},
		{24, 24, 1, 1, 1},
		{1, api.MaxFrames, 1, 1, 0},
		{1, 1, api.MaxFrames, api.MaxScale, api.MaxTime},
		{0, 1, api.MaxFrames, api.MaxScale, 0},
		{api.MaxFrame, api.MaxFrames, api.MaxFrames, 1, api.MaxFrame},
		{api.MaxFrame, api.MaxFrames, 1, api.MaxScale, 1000000000000},
		{api.MaxFrame, api.MaxFrames, 1000, api.MaxScale, api.MaxTime},
		{api.MaxFrame, 1, 1, 1000000, api.MaxTime},
		{api.MaxFrame - 2, api.MaxFrames, 1000, 999999999, 999999997000000},
	} {
		n, f := tick.FrameTime(c.frame, c.frames, c.seconds, c.scale)
		isValue(t, fmt.Sprint("FrameTime ", c), n, f, c.want)
	}
}

func TestFrameAt(t *testing.T) {
	for _, c := range []struct{ time, frames, seconds, scale, want int }{
		{0, 30000, 1001, 90000, 0},
		{3002, 30000, 1001, 90000, 0},
		{3003, 30000, 1001, 90000, 1},
		{6005, 30000, 1001, 90000, 1},
		{6006, 30000, 1001, 90000, 2},
		{2, 3, 1, 10, 0},
		{3, 3, 1, 10, 1}, // at 3 and a third, rounded down
		{5, 3, 1, 10, 1},
		{6, 3, 1, 10, 2},
		{9, 3, 1, 10, 2},
		{10, 3, 1, 10, 3},
		{0, 24, 1, 1, 23}, // of those that begin together, the last one
		{1, 24, 1, 1, 47},
		{0, api.MaxFrames, 1, 1, api.MaxFrames - 1},
		{api.MaxTime, api.MaxFrames, 1, 1, api.MaxFrame},
		{api.MaxTime, 1, 1, api.MaxScale, 1000000},
		{api.MaxTime, 1, api.MaxFrames, api.MaxScale, 1},
		{api.MaxTime - 1, 1, api.MaxFrames, api.MaxScale, 0},
		{api.MaxTime, 1, 1, 1000000, api.MaxFrame},
		{api.MaxTime - 1, 1, 1, 1000000, api.MaxFrame - 1},
		{api.MaxTime, 1, 1, 999999, api.MaxFrame},
	} {
		n, f := tick.FrameAt(c.time, c.frames, c.seconds, c.scale)
		isValue(t, fmt.Sprint("FrameAt ", c), n, f, c.want)
	}
}

func TestFrameFaults(t *testing.T) {
	for _, c := range [][4]int{
		{-1, 1, 1, 1}, {math.MinInt, 1, 1, 1}, {math.MaxInt, 1, 1, 1},
		{0, 0, 1, 1}, {0, -1, 1, 1}, {0, api.MaxFrames + 1, 1, 1},
		{0, 1, 0, 1}, {0, 1, -1, 1}, {0, 1, api.MaxFrames + 1, 1},
		{0, 1, 1, 0}, {0, 1, 1, -1}, {0, 1, 1, api.MaxScale + 1},
	} {
		n, f := tick.FrameTime(c[0], c[1], c[2], c[3])
		isFault(t, fmt.Sprint("FrameTime ", c), n, f, api.ErrRange)
		n, f = tick.FrameAt(c[0], c[1], c[2], c[3])
		isFault(t, fmt.Sprint("FrameAt ", c), n, f, api.ErrRange)
	}
	n, f := tick.FrameTime(api.MaxFrame+1, api.MaxFrames, 1, 1)
	isFault(t, "FrameTime of too great a frame", n, f, api.ErrRange)
	n, f = tick.FrameAt(api.MaxTime+1, 1, api.MaxFrames, api.MaxScale)
	isFault(t, "FrameAt of no time", n, f, api.ErrRange)
	for _, c := range [][4]int{
		{2, 1, api.MaxFrames, api.MaxScale},
		{api.MaxFrame, 1, 1, 1000001},
		{api.MaxFrame, 1, api.MaxFrames, api.MaxScale},
		{api.MaxFrame, api.MaxFrames, 1001, api.MaxScale},
	} {
		n, f := tick.FrameTime(c[0], c[1], c[2], c[3])
		isFault(t, fmt.Sprint("FrameTime ", c), n, f, api.ErrRange)
	}
}

func TestFramesAreExact(t *testing.T) {
	r := rand.New(rand.NewSource(6))
	for range 20000 {
		frames, seconds := 1+r.Intn(api.MaxFrames)>>r.Intn(20), 1+r.Intn(api.MaxFrames)>>r.Intn(20)
		scale := 1 + r.Intn(api.MaxScale)>>r.Intn(30)
		begin := func(frame int) *big.Int {
			return exact(product(frame, seconds, scale), big.NewInt(int64(frames)), api.Down)
		}

		frame := r.Intn(api.MaxFrame+1) >> r.Intn(30)
		what := fmt.Sprint(frames, " ", seconds, " ", scale)
		n, f := tick.FrameTime(frame, frames, seconds, scale)
		if want := begin(frame); isTime(want) {
			isValue(t, fmt.Sprint("FrameTime ", frame, " ", what), n, f, int(want.Int64()))
		} else {
			isFault(t, fmt.Sprint("FrameTime ", frame, " ", what), n, f, api.ErrRange)
		}

		time := r.Intn(api.MaxTime+1) >> r.Intn(50)
		at, f := tick.FrameAt(time, frames, seconds, scale)
		limit := big.NewInt(int64(time))
		if f != api.OK || at < 0 || at > api.MaxFrame || begin(at).Cmp(limit) > 0 {
			t.Error("FrameAt", time, what, at, f)
		}
		if at < api.MaxFrame && begin(at+1).Cmp(limit) <= 0 {
			t.Error("FrameAt", time, what, at, "but the next frame has begun")
		}
	}
}

func TestRegular(t *testing.T) {
	for _, c := range []struct {
		l           []int
		step, slack int
		want        []int
	}{
		{nil, 10, 2, nil},
		{[]int{7}, 10, 2, []int{7}},
		{[]int{0, 11, 19, 40}, 10, 2, []int{0, 10, 20, 40}},
		{[]int{0, 11, 19, 40}, 10, 0, []int{0, 11, 19, 40}},
		{[]int{0, 10, 20}, 10, 0, []int{0, 10, 20}},
		{[]int{0, 12, 27, 33}, 10, 2, []int{0, 10, 27, 33}},         // 3 from the grid: a new beginning, twice
		{[]int{0, 13, 24, 32}, 10, 2, []int{0, 13, 23, 33}},         // the grid of the new beginning
		{[]int{5, 16, 24}, 10, 1, []int{5, 15, 25}},                 // the grid begins at the first one
		{[]int{-7, 2, 14}, 10, 1, []int{-7, 3, 13}},                 // also below 0
		{[]int{-35, -26, -14, -5}, 10, 1, []int{-35, -25, -15, -5}}, // and all of it
		{[]int{0, 5}, 10, 5, []int{0, 10}},                          // of two, the greater one
		{[]int{0, 15}, 10, 5, []int{0, 20}},
		{[]int{0, 5}, 10, 4, []int{0, 5}},
		{[]int{0, 3, 9}, 7, 3, []int{0, 3, 10}},
		{[]int{0, 4}, 7, 3, []int{0, 7}},
		{[]int{0, 9, 9, 20}, 10, 2, []int{0, 10, 9, 19}},   // 10 is not greater than 10
		{[]int{0, 9, 10, 11}, 10, 2, []int{0, 10, 10, 11}}, // nor for those after it
		{[]int{0, 9, 12, 21}, 10, 2, []int{0, 10, 12, 22}},
		{[]int{0, 0, 0}, 10, 2, []int{0, 0, 0}},
		{[]int{3, 3, 14}, 10, 2, []int{3, 3, 13}},
		{[]int{0, 4}, 10, 10, []int{0, 4}}, // the nearest one is the beginning itself
		{[]int{0, 1, 2, 3}, 1, 0, []int{0, 1, 2, 3}},
		{[]int{0, 1, 5}, 1, api.MaxTime, []int{0, 1, 5}},
		{[]int{-api.MaxTime, 0, api.MaxTime}, api.MaxTime, api.MaxTime, []int{-api.MaxTime, 0, api.MaxTime}},
		{[]int{-api.MaxTime, api.MaxTime - 1}, api.MaxTime, 1, []int{-api.MaxTime, api.MaxTime}},
		{[]int{1, api.MaxTime}, 2, 0, []int{1, api.MaxTime}}, // the grid goes on beyond the last time
	} {
		l, f := tick.Regular(c.l, c.step, c.slack)
		isList(t, fmt.Sprint("Regular ", c.l, c.step, c.slack), l, f, c.want)
	}
}

func TestRegularFaults(t *testing.T) {
	many := make([]int, api.MaxTimes+1)
	for _, c := range []struct {
		l           []int
		step, slack int
		want        api.Fault
	}{
		{nil, 0, 0, api.ErrRange},
		{nil, -1, 0, api.ErrRange},
		{nil, api.MaxTime + 1, 0, api.ErrRange},
		{nil, 1, -1, api.ErrRange},
		{nil, 1, api.MaxTime + 1, api.ErrRange},
		{many, 1, 0, api.ErrLarge},
		{[]int{api.MaxTime + 1}, 1, 0, api.ErrRange},
		{[]int{-api.MaxTime - 1}, 1, 0, api.ErrRange},
		{[]int{0, api.MaxTime + 1}, 1, 0, api.ErrRange},
		{[]int{0, -1}, 1, 0, api.ErrOrder},
		{[]int{0, 5, 4}, 1, 0, api.ErrOrder},
		{[]int{1, api.MaxTime}, 2, 1, api.ErrRange}, // the result would be MaxTime + 1
		{[]int{1, api.MaxTime}, api.MaxTime, api.MaxTime, api.ErrRange},
		// the first of several faults
		{many, 0, 0, api.ErrRange},
		{many, 1, -1, api.ErrRange},
		{[]int{0, -1}, 0, 0, api.ErrRange},
		{append([]int{1, 0}, many...), 1, 0, api.ErrLarge},
		{append([]int{api.MaxTime + 1}, many...), 1, 0, api.ErrLarge},
		{[]int{0, -api.MaxTime - 1}, 1, 0, api.ErrRange},
		{[]int{0, -1, api.MaxTime + 1}, 1, 0, api.ErrOrder},
		{[]int{0, api.MaxTime + 1, -1}, 1, 0, api.ErrRange},
		{[]int{1, api.MaxTime, 0}, 2, 1, api.ErrOrder}, // before what is wrong with the result
	} {
		l, f := tick.Regular(c.l, c.step, c.slack)
		isListFault(t, fmt.Sprint("Regular ", len(c.l), c.step, c.slack), l, f, c.want)
	}
	l, f := tick.Regular(many[1:], 1, 0)
	isList(t, "Regular of as many as there can be", l, f, many[1:])
}

func TestRegularLeavesArguments(t *testing.T) {
	for _, slack := range []int{0, 2} {
		guarded(t, "Regular", []int{0, 11, 19, 40}, -7, func(l []int) []int {
			out, _ := tick.Regular(l, 10, slack)
			return out
		})
	}
}
