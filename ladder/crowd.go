package ladder

import (
	"headend/api"
	"headend/check"
)

// CheckCrowd validates viewers.
func CheckCrowd(l []api.Viewer) api.Fault {
	if len(l) > api.MaxViewers {
		return api.ErrLarge
	}
	for _, v := range l {
		if !isRate(v.Rate) || !isHeight(v.Height) || !isWeight(v.Weight) {
			return api.ErrRange
		}
	}
	return api.OK
}

func isWeight(n int) bool { return check.Within(n, 1, api.MaxWeight) }

// canTake says whether a viewer can take a rendition.
func canTake(v api.Viewer, r api.Rung) bool {
	return r.Rate <= v.Rate && r.Height <= v.Height
}

// Takes returns the number of the rendition that a viewer takes, if they take one.
func Takes(l []api.Rung, v api.Viewer) (int, bool, api.Fault) {
	fault := check.First(
		CheckRenditions(l),
		CheckCrowd([]api.Viewer{v}),
	)
	if fault != api.OK {
		return 0, false, fault
	}
	taken, found := takenBy(v, l)
	return taken, found, api.OK
}

func takenBy(v api.Viewer, l []api.Rung) (taken int, found bool) {
	for i, r := range l {
		if canTake(v, r) && (!found || r.Quality > l[taken].Quality) {
			taken, found = i, true
		}
	}
	return taken, found
}

// Worth returns what renditions are worth to a crowd.
func Worth(l []api.Rung, crowd []api.Viewer) (int, api.Fault) {
	fault := check.First(
		CheckRenditions(l),
		CheckCrowd(crowd),
	)
	if fault != api.OK {
		return 0, fault
	}
	worth := 0
	for _, v := range crowd {
		if i, found := takenBy(v, l); found {
			worth += v.Weight * l[i].Quality
		}
	}
	return worth, api.OK
}
