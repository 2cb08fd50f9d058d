package ladder

import (
	"sort"

	"headend/api"
	"headend/check"
)

// Hull returns the numbers of the corners of the upper hull of rate and quality.
func Hull(l []api.Rung) ([]int, api.Fault) {
	if fault := CheckRenditions(l); fault != api.OK {
		return nil, fault
	}
	return hullOf(l), api.OK
}

// hullOf puts the renditions on the hull one by one; each one takes those away that are no corners with it.
func hullOf(l []api.Rung) []int {
	var corners []int
	for i, r := range l {
		if n := len(corners); n > 0 && r.Quality <= l[corners[n-1]].Quality {
			continue
		}
		for len(corners) > 0 && !staysCorner(l, corners, r) {
			corners = corners[:len(corners)-1]
		}
		corners = append(corners, i)
	}
	return corners
}

// staysCorner says whether the last corner is still one with a rendition that is better, and not cheaper.
func staysCorner(l []api.Rung, corners []int, r api.Rung) bool {
	n := len(corners)
	last := l[corners[n-1]]
	return last.Rate < r.Rate && (n == 1 || isAbove(last, l[corners[n-2]], r))
}

// isAbove says whether r lies above the line between two others, of which one has a lesser and one a greater rate.
func isAbove(r, low, high api.Rung) bool {
	return (r.Quality-low.Quality)*(high.Rate-low.Rate) > (high.Quality-low.Quality)*(r.Rate-low.Rate)
}

// Mixed returns the greatest mean quality that one gets at a mean rate by changing between two renditions.
func Mixed(l []api.Rung, rate int) (api.Ratio, bool, api.Fault) {
	fault := check.First(
		CheckRenditions(l),
		check.If(!isRate(rate), api.ErrRange),
	)
	if fault != api.OK {
		return api.Ratio{}, false, fault
	}
	corners := hullOf(l)
	dearer := sort.Search(len(corners), func(i int) bool { return l[corners[i]].Rate > rate })
	if dearer == 0 {
		return api.Ratio{}, false, api.OK
	}
	low := l[corners[dearer-1]]
	if dearer == len(corners) {
		return lowest(low.Quality, 1), true, api.OK
	}
	high := l[corners[dearer]]
	width := high.Rate - low.Rate
	return lowest(low.Quality*width+(high.Quality-low.Quality)*(rate-low.Rate), width), true, api.OK
}
