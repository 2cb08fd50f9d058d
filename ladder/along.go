package ladder

import "headend/api"

// plan is what to choose after a rendition: how much worth this adds, how many are chosen, and which one is next.
type plan struct{ worth, many, next int }

func (p plan) betterThan(other plan) bool {
	return p.worth > other.worth || p.worth == other.worth && p.many < other.many
}

// Along returns the numbers of at most so many renditions that are worth most to a crowd whose heights do not matter, and this worth; of several choices the one that Best would return.
func Along(l []api.Rung, crowd []api.Viewer, most int) ([]int, int, api.Fault) {
	if fault := checkChoice(l, crowd, most); fault != api.OK {
		return nil, 0, fault
	}
	steps := append([]api.Rung{{}}, l...) // the first one stands for no rendition
	people := peopleOf(steps, crowd)
	// Each viewer takes the last one of the chosen that they can take. Where this is not the best one, the choice without it is no worse.
	adds := func(from, to int) int { return (steps[to].Quality - steps[from].Quality) * people[to] }
	plans := [][]plan{make([]plan, len(steps))}
	for left := range min(most, len(l)) {
		plans = append(plans, longer(plans[left], adds))
	}
	var best []int
	last := len(plans) - 1
	for at, left := plans[last][0].next, last; at > 0; at = plans[left][at].next {
		best = append(best, at-1)
		left--
	}
	return best, plans[last][0].worth, api.OK
}

// peopleOf returns, for each rendition, how many people can have its rate.
func peopleOf(l []api.Rung, crowd []api.Viewer) []int {
	people := make([]int, len(l))
	for i, r := range l {
		for _, v := range crowd {
			if r.Rate <= v.Rate {
				people[i] += v.Weight
			}
		}
	}
	return people
}

// longer returns the best plans with one rendition more than those that are given.
func longer(plans []plan, adds func(from, to int) int) []plan {
	best := make([]plan, len(plans))
	for from := range plans {
		for to := from + 1; to < len(plans); to++ {
			rest := plans[to]
			p := plan{worth: adds(from, to) + rest.worth, many: rest.many + 1, next: to}
			if p.betterThan(best[from]) {
				best[from] = p
			}
		}
	}
	return best
}
