package tick

import (
	"headend/api"
	"headend/check"
)

func isRate(frames, seconds, scale int) bool {
	return check.Within(frames, 1, api.MaxFrames) && check.Within(seconds, 1, api.MaxFrames) && check.IsScale(scale)
}

// FrameTime returns when a frame begins.
func FrameTime(frame, frames, seconds, scale int) (int, api.Fault) {
	if !check.Within(frame, 0, api.MaxFrame) || !isRate(frames, seconds, scale) {
		return 0, api.ErrRange
	}
	time := portion(frame, seconds*scale, frames, api.Down)
	if !check.IsTime(time) {
		return 0, api.ErrRange
	}
	return time, api.OK
}

// FrameAt returns the last frame that begins at a time, or before it.
func FrameAt(time, frames, seconds, scale int) (int, api.Fault) {
	if !check.Within(time, 0, api.MaxTime) || !isRate(frames, seconds, scale) {
		return 0, api.ErrRange
	}
	// The beginning of a frame is rounded down, so it is not after the time just if the exact moment is before the next tick.
	frame := portion(time+1, frames, seconds*scale, api.Up) - 1
	return min(frame, api.MaxFrame), api.OK
}

// Regular returns times on grids of a step; what is too far from its grid begins a new one.
func Regular(l []int, step, slack int) ([]int, api.Fault) {
	if !check.Within(step, 1, api.MaxTime) || !check.Within(slack, 0, api.MaxTime) {
		return nil, api.ErrRange
	}
	if f := checkRising(l); f != api.OK {
		return nil, f
	}
	result := make([]int, len(l))
	begin := -api.MaxTime // not after any time, until the first one begins its own grid
	for i, n := range l {
		at := nearest(begin, step, n)
		if i == 0 || size(at-n) > slack || at <= result[i-1] {
			begin, at = n, n
		}
		if !check.IsTime(at) {
			return nil, api.ErrRange
		}
		result[i] = at
	}
	return result, api.OK
}

// checkRising validates a list of times, none of which is less than the one before it.
func checkRising(l []int) api.Fault {
	if len(l) > api.MaxTimes {
		return api.ErrLarge
	}
	for i, n := range l {
		if !check.IsTime(n) {
			return api.ErrRange
		}
		if i > 0 && n < l[i-1] {
			return api.ErrOrder
		}
	}
	return api.OK
}

// nearest returns the time on a grid that is nearest to n; of two, the greater one. The grid begins at n or before it.
func nearest(begin, step, n int) int {
	return begin + (n-begin+step/2)/step*step
}
