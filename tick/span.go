package tick

import (
	"slices"

	"headend/api"
	"headend/check"
)

// CheckSpans validates a list of spans.
func CheckSpans(l []api.Span) api.Fault {
	if len(l) > api.MaxSpans {
		return api.ErrLarge
	}
	for i, s := range l {
		if !check.IsTime(s.From) || !check.IsTime(s.To) {
			return api.ErrRange
		}
		if s.To <= s.From || i > 0 && s.From <= l[i-1].To {
			return api.ErrOrder
		}
	}
	return api.OK
}

// Join returns the spans of the ticks that are in a, or in b.
func Join(a, b []api.Span) ([]api.Span, api.Fault) {
	return combined(a, b, func(inA, inB bool) bool { return inA || inB })
}

// Meet returns the spans of the ticks that are in a, and in b.
func Meet(a, b []api.Span) ([]api.Span, api.Fault) {
	return combined(a, b, func(inA, inB bool) bool { return inA && inB })
}

// Without returns the spans of the ticks that are in a, but not in b.
func Without(a, b []api.Span) ([]api.Span, api.Fault) {
	return combined(a, b, func(inA, inB bool) bool { return inA && !inB })
}

// combined returns the spans of the ticks that are kept, which depends on whether they are in a, and in b; a tick that is in neither is not kept.
func combined(a, b []api.Span, kept func(inA, inB bool) bool) ([]api.Span, api.Fault) {
	if f := CheckSpans(a); f != api.OK {
		return nil, f
	}
	if f := CheckSpans(b); f != api.OK {
		return nil, f
	}
	inA, inB := member(a), member(b)
	var l []api.Span
	open, from := false, 0
	for _, tick := range bounds(a, b) {
		is := kept(inA(tick), inB(tick))
		if is && !open {
			from = tick
		}
		if !is && open {
			l = append(l, api.Span{From: from, To: tick})
		}
		open = is
	}
	if len(l) > api.MaxSpans {
		return nil, api.ErrLarge
	}
	return l, api.OK
}

// bounds returns, increasing, the ticks at which a span of either list begins or ends.
func bounds(a, b []api.Span) []int {
	var l []int
	for _, s := range a {
		l = append(l, s.From, s.To)
	}
	for _, s := range b {
		l = append(l, s.From, s.To)
	}
	slices.Sort(l)
	return slices.Compact(l)
}

// member returns a function that says whether a tick is in one of the spans. It must be asked for increasing ticks, as it goes through the spans but once.
func member(l []api.Span) func(tick int) bool {
	next := 0
	return func(tick int) bool {
		for next < len(l) && l[next].To <= tick {
			next++
		}
		return next < len(l) && l[next].From <= tick
	}
}

// AppendSpan appends a span to spans that all end before it, as append does; if it touches the last one, both become one, and if it has no tick, there is none.
func AppendSpan(l []api.Span, from, to int) []api.Span {
	if from >= to {
		return l
	}
	if n := len(l); n > 0 && l[n-1].To == from {
		l[n-1].To = to
		return l
	}
	return append(l, api.Span{From: from, To: to})
}

// Length returns how many ticks there are in spans.
func Length(l []api.Span) (int, api.Fault) {
	if f := CheckSpans(l); f != api.OK {
		return 0, f
	}
	ticks := 0
	for _, s := range l {
		ticks += s.To - s.From
	}
	return ticks, api.OK
}
