package tick

import (
	"sort"

	"headend/api"
	"headend/check"
)

// CheckClock validates the anchors of a clock.
func CheckClock(l []api.Anchor) api.Fault {
	if len(l) == 0 {
		return api.ErrNone
	}
	if len(l) > api.MaxAnchor {
		return api.ErrLarge
	}
	for i, a := range l {
		if !check.IsTime(a.Media) || !check.Within(a.Wall, 0, api.MaxMilli) {
			return api.ErrRange
		}
		if i > 0 && a.Media <= l[i-1].Media {
			return api.ErrOrder
		}
	}
	return api.OK
}

// checkScaled validates a clock and its scale.
func checkScaled(l []api.Anchor, scale int) api.Fault {
	if f := CheckClock(l); f != api.OK {
		return f
	}
	if !check.IsScale(scale) {
		return api.ErrRange
	}
	return api.OK
}

// milliAt returns the millisecond that a tick is by an anchor.
func milliAt(a api.Anchor, scale, media int) int {
	return a.Wall + portion(media-a.Media, milliOfSecond, scale, api.Down)
}

// firstTick returns the first tick that is by an anchor a millisecond, or a later one.
func firstTick(a api.Anchor, scale, wall int) int {
	return a.Media + portion(wall-a.Wall, scale, milliOfSecond, api.Up)
}

// Wall returns the millisecond of a tick.
func Wall(l []api.Anchor, scale, media int) (int, api.Fault) {
	if f := checkScaled(l, scale); f != api.OK {
		return 0, f
	}
	if !check.IsTime(media) {
		return 0, api.ErrRange
	}
	later := sort.Search(len(l), func(i int) bool { return l[i].Media > media })
	wall := milliAt(l[max(later-1, 0)], scale, media)
	if !check.Within(wall, 0, api.MaxMilli) {
		return 0, api.ErrRange
	}
	return wall, api.OK
}

// Media returns the spans of the ticks that are a millisecond.
func Media(l []api.Anchor, scale, wall int) ([]api.Span, api.Fault) {
	if f := checkScaled(l, scale); f != api.OK {
		return nil, f
	}
	if !check.Within(wall, 0, api.MaxMilli) {
		return nil, api.ErrRange
	}
	var spans []api.Span
	least := -api.MaxTime
	for i, a := range l {
		most := api.MaxTime
		if i+1 < len(l) {
			most = l[i+1].Media
		}
		from := max(firstTick(a, scale, wall), least)
		to := min(firstTick(a, scale, wall+1), most)
		spans = AppendSpan(spans, from, to)
		least = most
	}
	return spans, api.OK
}

// Kept returns the anchors that are needed, so that the clock is wrong by at most slack at those that are not.
func Kept(l []api.Anchor, scale, slack int) ([]api.Anchor, api.Fault) {
	if f := checkScaled(l, scale); f != api.OK {
		return nil, f
	}
	if !check.Within(slack, 0, api.MaxMilli) {
		return nil, api.ErrRange
	}
	last := l[0]
	kept := []api.Anchor{last}
	for _, a := range l[1:] {
		if size(a.Wall-milliAt(last, scale, a.Media)) > slack {
			last = a
			kept = append(kept, a)
		}
	}
	return kept, api.OK
}
