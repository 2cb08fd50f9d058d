package cut

import (
	"slices"

	"headend/api"
	"headend/check"
)

const (
	maxLength = 50000000      // ticks of a segment
	maxWhole  = 1000000000000 // ticks of all
)

// checkRising validates places, or boundaries.
func checkRising(l []int) api.Fault {
	if len(l) == 0 {
		return api.ErrNone
	}
	if len(l) > api.MaxCuts {
		return api.ErrLarge
	}
	for i, n := range l {
		fault := check.First(
			check.If(!check.IsTime(n), api.ErrRange),
			check.If(i > 0 && n <= l[i-1], api.ErrOrder),
		)
		if fault != api.OK {
			return fault
		}
	}
	return api.OK
}

func checkPlaces(places []int, w api.Wish) api.Fault {
	return check.First(
		check.If(!check.IsScale(w.Scale), api.ErrRange),
		check.If(!check.Within(w.Target, 1, maxLength), api.ErrRange),
		check.If(!check.Within(w.Most, w.Target, maxLength), api.ErrRange),
		checkRising(places),
	)
}

// checkEnd validates the end of what is cut at places, which are valid.
func checkEnd(places []int, end int) api.Fault {
	return check.First(
		check.If(!check.IsTime(end), api.ErrRange),
		check.If(end <= places[len(places)-1], api.ErrOrder),
		check.If(end-places[0] > maxWhole, api.ErrRange),
	)
}

// plan is a way to cut from a boundary on: the sum of the squares, how many boundaries there are, and which stop comes next. Without boundaries it is none.
type plan struct{ sum, bounds, next int }

func (p plan) betterThan(other plan) bool {
	if other.bounds == 0 {
		return true
	}
	if p.sum != other.sum {
		return p.sum < other.sum
	}
	return p.bounds < other.bounds
}

// Choose returns the boundaries out of places that drift least from a wish, and the sum of the squares of their drifts.
func Choose(places []int, end int, w api.Wish) ([]int, int, api.Fault) {
	if fault := checkPlaces(places, w); fault != api.OK {
		return nil, 0, fault
	}
	if fault := checkEnd(places, end); fault != api.OK {
		return nil, 0, fault
	}
	plans := plansOf(append(slices.Clone(places), end), w)
	if plans[0].bounds == 0 {
		return nil, 0, api.ErrNone
	}
	var bounds []int
	for at := 0; at < len(places); at = plans[at].next {
		bounds = append(bounds, places[at])
	}
	return bounds, plans[0].sum, api.OK
}

// plansOf returns the best plan from each stop on; the last stop is the end, from which on there is none. Of several that are equally good it is the one with the least next stop.
func plansOf(stops []int, w api.Wish) []plan {
	plans := make([]plan, len(stops))
	end := len(stops) - 1
	for from := end - 1; from >= 0; from-- {
		for next := from + 1; next <= end && stops[next]-stops[from] <= w.Most; next++ {
			rest := plans[next]
			if next < end && rest.bounds == 0 {
				continue
			}
			drift := stops[next] - stops[from] - w.Target
			p := plan{sum: drift*drift + rest.sum, bounds: rest.bounds + 1, next: next}
			if p.betterThan(plans[from]) {
				plans[from] = p
			}
		}
	}
	return plans
}

// Grid returns the boundaries that one finds without knowing what comes: after the first place the first one that is not before each multiple of the wish.
func Grid(places []int, w api.Wish) ([]int, api.Fault) {
	if fault := checkPlaces(places, w); fault != api.OK {
		return nil, fault
	}
	bounds := []int{places[0]}
	for _, place := range places[1:] {
		if place >= places[0]+len(bounds)*w.Target {
			bounds = append(bounds, place)
		}
	}
	return bounds, api.OK
}
