package mark

import (
	"math"
	"slices"

	"headend/api"
	"headend/check"
)

const (
	open  = -1          // the End of a break that is open
	never = math.MaxInt // the same while cues come, as an End may then be below 0
)

// scene is what cues have made so far.
type scene struct {
	breaks    []api.Break  // by Begin
	cancelled map[int]bool // by Event
}

// Breaks returns the breaks that cues make, and the numbers of the cues that did nothing.
func Breaks(l []api.Heard) ([]api.Break, []int, api.Fault) {
	if fault := checkHeard(l); fault != api.OK {
		return nil, nil, fault
	}
	s := scene{cancelled: map[int]bool{}}
	var idle []int
	for i, h := range l {
		if !s.hear(h) {
			idle = append(idle, i)
		}
	}
	isWrong := func(b api.Break) bool { return !isTick(b.Begin) || b.End != never && !isTick(b.End) }
	fault := check.First(
		check.If(slices.ContainsFunc(s.breaks, isWrong), api.ErrRange),
		check.If(len(s.breaks) > api.MaxBreaks, api.ErrLarge),
	)
	if fault != api.OK {
		return nil, nil, fault
	}
	for i, b := range s.breaks {
		if b.End == never {
			s.breaks[i].End = open
		}
	}
	return s.breaks, idle, api.OK
}

func checkHeard(l []api.Heard) api.Fault {
	if len(l) > api.MaxCues {
		return api.ErrLarge
	}
	return check.Each(l, func(i int, h api.Heard) api.Fault {
		return check.First(
			check.If(!check.IsTime(h.At), api.ErrRange),
			check.If(i > 0 && h.At < l[i-1].At, api.ErrOrder),
			CheckCue(h.Cue),
		)
	})
}

// timeOf returns the whole time of a cue that has one.
func timeOf(h api.Heard) int {
	if h.Cue.Now {
		return h.At
	}
	ahead := (h.Cue.Time - h.At) & (api.Wrapped - 1) // modulo Wrapped, which is a power of two
	if ahead >= api.Wrapped/2 {
		ahead -= api.Wrapped
	}
	return h.At + ahead
}

// hear takes a cue, and says whether it did something.
func (s *scene) hear(h api.Heard) bool {
	switch h.Cue.Kind {
	case api.CueOut:
		return s.begin(h.Cue, timeOf(h))
	case api.CueIn:
		return s.end(h.Cue.Event, timeOf(h))
	case api.CueCancel:
		return s.cancel(h.Cue.Event, h.At)
	}
	return false
}

// placeOf returns the place of the break with an Event, or -1.
func (s *scene) placeOf(event int) int {
	return slices.IndexFunc(s.breaks, func(b api.Break) bool { return b.Event == event })
}

func (s *scene) begin(c api.Cue, time int) bool {
	isThere := s.cancelled[c.Event] || s.placeOf(c.Event) >= 0
	isLater := func(b api.Break) bool { return b.End > time } // so are those that are open
	if isThere || slices.ContainsFunc(s.breaks, isLater) {
		return false
	}
	end := never
	if c.Auto {
		end = time + c.Length
	}
	s.breaks = append(s.breaks, api.Break{Event: c.Event, Begin: time, End: end})
	return true
}

func (s *scene) end(event, time int) bool {
	place := s.placeOf(event)
	if place < 0 || s.breaks[place].End <= time {
		return false
	}
	if time <= s.breaks[place].Begin {
		s.takeAway(event)
		return true
	}
	s.breaks[place].End = time
	return true
}

func (s *scene) cancel(event, at int) bool {
	place := s.placeOf(event)
	if s.cancelled[event] || place >= 0 && s.breaks[place].Begin <= at {
		return false
	}
	s.takeAway(event)
	return true
}

// takeAway cancels an Event, and its break goes, if there is one.
func (s *scene) takeAway(event int) {
	s.breaks = slices.DeleteFunc(s.breaks, func(b api.Break) bool { return b.Event == event })
	s.cancelled[event] = true
}

// CheckBreaks validates breaks.
func CheckBreaks(l []api.Break) api.Fault {
	if len(l) > api.MaxBreaks {
		return api.ErrLarge
	}
	seen := map[int]bool{}
	return check.Each(l, func(i int, b api.Break) api.Fault {
		var before api.Break
		if i > 0 {
			before = l[i-1]
		}
		fault := check.First(
			check.If(!check.Within(b.Event, 0, api.MaxEventId), api.ErrRange),
			check.If(!isTick(b.Begin) || b.End != open && !isTick(b.End), api.ErrRange),
			check.If(b.End != open && b.End <= b.Begin, api.ErrOrder),
			check.If(before.End == open, api.ErrState),
			check.If(b.Begin < before.End, api.ErrOrder),
			check.If(seen[b.Event], api.ErrTwice),
		)
		seen[b.Event] = true
		return fault
	})
}

// endOf returns where a break ends, if all does so at an end.
func endOf(b api.Break, end int) int {
	if b.End == open {
		return end
	}
	return min(b.End, end)
}

// Shortened returns the breaks up to an end.
func Shortened(l []api.Break, end int) ([]api.Break, api.Fault) {
	fault := check.First(
		CheckBreaks(l),
		check.If(!isTick(end), api.ErrRange),
	)
	if fault != api.OK {
		return nil, fault
	}
	var short []api.Break
	for _, b := range l {
		if b.Begin < end {
			b.End = endOf(b, end)
			short = append(short, b)
		}
	}
	return short, api.OK
}
