package ladder

import (
	"slices"

	"headend/api"
	"headend/check"
)

// chosen returns the numbers of at most so many options that are worth most together, and what they are worth. gains has, for each option, what it gives to each one; of several options each one takes the best.
func chosen(gains [][]int, most int) ([]int, int) {
	var best []int
	worth := 0
	var extend func(choice, taken []int, from int)
	extend = func(choice, taken []int, from int) {
		// Of equally many options the least list is the first one that comes here.
		sum := sumOf(taken)
		if sum > worth || sum == worth && len(choice) < len(best) {
			best, worth = slices.Clone(choice), sum
		}
		if len(choice) == most {
			return
		}
		for next := from; next < len(gains); next++ {
			extend(append(choice, next), greater(gains[next], taken), next+1)
		}
	}
	extend(nil, nil, 0)
	return best, worth
}

// greater returns the greater ones of numbers; b can be empty instead of being all 0.
func greater(a, b []int) []int {
	l := slices.Clone(a)
	for i, n := range b {
		l[i] = max(l[i], n)
	}
	return l
}

func sumOf(l []int) int {
	sum := 0
	for _, n := range l {
		sum += n
	}
	return sum
}

// isMost says whether a number can bound how many are chosen.
func isMost(n int) bool { return check.Within(n, 0, api.MaxRenditions) }

// checkChoice validates renditions of which at most so many are chosen for a crowd.
func checkChoice(l []api.Rung, crowd []api.Viewer, most int) api.Fault {
	return check.First(
		CheckRenditions(l),
		CheckCrowd(crowd),
		check.If(!isMost(most), api.ErrRange),
	)
}

// Best returns the numbers of at most so many renditions that are worth most to a crowd, and this worth.
func Best(l []api.Rung, crowd []api.Viewer, most int) ([]int, int, api.Fault) {
	fault := check.First(
		checkChoice(l, crowd, most),
		check.If(len(l) > api.MaxChosen, api.ErrLarge),
	)
	if fault != api.OK {
		return nil, 0, fault
	}
	gains := make([][]int, len(l))
	for i, r := range l {
		for _, v := range crowd {
			gain := 0
			if canTake(v, r) {
				gain = v.Weight * r.Quality
			}
			gains[i] = append(gains[i], gain)
		}
	}
	best, worth := chosen(gains, most)
	return best, worth, api.OK
}

// Common returns at most so many rates that are best for several films, and what they are worth.
func Common(l [][]api.Rung, weights []int, most int) ([]int, int, api.Fault) {
	if fault := checkFilms(l, weights, most); fault != api.OK {
		return nil, 0, fault
	}
	rates := ratesOf(l)
	if len(rates) > api.MaxChosen {
		return nil, 0, api.ErrLarge
	}
	gains := make([][]int, len(rates))
	for i, rate := range rates {
		for k, film := range l {
			gains[i] = append(gains[i], weights[k]*qualityAt(film, rate))
		}
	}
	best, worth := chosen(gains, most)
	for i, number := range best {
		best[i] = rates[number]
	}
	return best, worth, api.OK
}

func checkFilms(films [][]api.Rung, weights []int, most int) api.Fault {
	if len(films) > api.MaxFilms {
		return api.ErrLarge
	}
	for _, film := range films {
		if fault := CheckRenditions(film); fault != api.OK {
			return fault
		}
	}
	isWrong := func(weight int) bool { return !isWeight(weight) }
	return check.First(
		check.If(len(weights) != len(films), api.ErrForm),
		check.If(slices.ContainsFunc(weights, isWrong), api.ErrRange),
		check.If(!isMost(most), api.ErrRange),
	)
}

// ratesOf returns the different rates of films, increasing.
func ratesOf(films [][]api.Rung) []int {
	var rates []int
	for _, r := range slices.Concat(films...) {
		rates = append(rates, r.Rate)
	}
	slices.Sort(rates)
	return slices.Compact(rates)
}

// qualityAt returns the greatest quality of the renditions with a rate.
func qualityAt(film []api.Rung, rate int) int {
	quality := 0
	for _, r := range film {
		if r.Rate == rate {
			quality = max(quality, r.Quality)
		}
	}
	return quality
}
