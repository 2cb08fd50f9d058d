package ladder

import (
	"slices"

	"headend/api"
	"headend/check"
)

// checkStep validates renditions, and by how much one may be dearer than the one before it.
func checkStep(l []api.Rung, most api.Ratio) api.Fault {
	return check.First(
		CheckRenditions(l),
		check.If(!check.Within(most.Num, 1, api.MaxBits), api.ErrRange),
		check.If(!check.Within(most.Den, 1, api.MaxBits), api.ErrRange),
		check.If(most.Num < most.Den, api.ErrRange),
	)
}

// isGap says whether a rendition is too dear to come after another one.
func isGap(before, r api.Rung, most api.Ratio) bool {
	return r.Rate*most.Den > before.Rate*most.Num
}

// gapBefore says whether a rendition is too dear to come after the one before it in the list.
func gapBefore(l []api.Rung, i int, most api.Ratio) bool {
	return i > 0 && isGap(l[i-1], l[i], most)
}

// Steps returns the numbers of the fewest renditions, from the first to the last one, without a gap, if there are any.
func Steps(l []api.Rung, most api.Ratio) ([]int, bool, api.Fault) {
	if fault := checkStep(l, most); fault != api.OK {
		return nil, false, fault
	}
	if len(l) == 0 {
		return nil, false, api.OK
	}
	for i := range l {
		if gapBefore(l, i, most) { // nor does a lesser rendition come near enough
			return nil, false, api.OK
		}
	}
	next := nextSteps(l, most)
	steps := []int{0}
	for at := 0; at < len(l)-1; {
		at = next[at]
		steps = append(steps, at)
	}
	return steps, true, api.OK
}

// nextSteps returns, for each rendition but the last one, which one comes after it in the shortest row to the last one; of several such rows in the least one. There is no gap before any rendition.
func nextSteps(l []api.Rung, most api.Ratio) []int {
	next, left := make([]int, len(l)), make([]int, len(l))
	for i := len(l) - 2; i >= 0; i-- {
		next[i] = i + 1
		for k := i + 2; k < len(l) && !isGap(l[i], l[k], most); k++ {
			if left[k] < left[next[i]] {
				next[i] = k
			}
		}
		left[i] = left[next[i]] + 1
	}
	return next
}

// Capped returns the numbers of the renditions with no more than a rate and a height, or, if there are none, that of the least one.
func Capped(l []api.Rung, rate, height int) ([]int, api.Fault) {
	fault := check.First(
		CheckRenditions(l),
		check.If(!isRate(rate), api.ErrRange),
		check.If(!isHeight(height), api.ErrRange),
	)
	if fault != api.OK {
		return nil, fault
	}
	bound := api.Viewer{Rate: rate, Height: height}
	capped := numbersOf(l, func(r api.Rung) bool { return canTake(bound, r) })
	if len(capped) > 0 || len(l) == 0 {
		return capped, api.OK
	}
	least := 0
	for i, r := range l {
		if r.Height < l[least].Height {
			least = i
		}
	}
	return []int{least}, api.OK
}

// Wrong returns what is wrong with a ladder.
func Wrong(l []api.Rung, most api.Ratio) ([]api.Flaw, api.Fault) {
	if fault := checkStep(l, most); fault != api.OK {
		return nil, fault
	}
	var flaws []api.Flaw
	tell := func(isWrong bool, kind, at int) {
		if isWrong {
			flaws = append(flaws, api.Flaw{Kind: kind, At: at})
		}
	}
	for i, r := range l {
		isTall := slices.ContainsFunc(l[i+1:], func(later api.Rung) bool { return r.Height > later.Height })
		tell(!isSensible(l, r), api.FlawDear, i)
		tell(isTall, api.FlawTall, i)
		tell(gapBefore(l, i, most), api.FlawGap, i)
	}
	return flaws, api.OK
}
