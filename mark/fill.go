package mark

import (
	"slices"

	"headend/api"
	"headend/check"
)

// choice is some advertisements: their numbers, increasing, and what they have together.
type choice struct {
	numbers       []int
	value, length int
}

func (c choice) betterThan(other choice) bool {
	if c.value != other.value {
		return c.value > other.value
	}
	if c.length != other.length {
		return c.length > other.length
	}
	return len(c.numbers) < len(other.numbers)
}

// with returns a choice that has one more.
func (c choice) with(number int, ad api.Ad) choice {
	return choice{slices.Concat(c.numbers, []int{number}), c.value + ad.Value, c.length + ad.Length}
}

// Fill returns the numbers of the advertisements that are put into a break of a length, and the sum of their values.
func Fill(ads []api.Ad, length int) ([]int, int, api.Fault) {
	fault := check.First(
		checkAds(ads),
		check.If(!isTick(length), api.ErrRange),
	)
	if fault != api.OK {
		return nil, 0, fault
	}
	best := bestOf(ads, length)
	return best.numbers, best.value, api.OK
}

func checkAds(ads []api.Ad) api.Fault {
	if len(ads) > api.MaxAds {
		return api.ErrLarge
	}
	seen := map[string]bool{}
	return check.Each(ads, func(_ int, ad api.Ad) api.Fault {
		fault := check.First(
			check.If(!check.IsName(ad.Name), api.ErrName),
			check.If(ad.Rival != "" && !check.IsName(ad.Rival), api.ErrName),
			check.If(seen[ad.Name], api.ErrTwice),
			check.If(!isLength(ad.Length) || !check.Within(ad.Value, 0, api.MaxValue), api.ErrRange),
		)
		seen[ad.Name] = true
		return fault
	})
}

// bestOf returns the best choice that fits. Of choices that are equally good, and so equally many, it meets the least list first, as it takes each advertisement before it leaves it out.
func bestOf(ads []api.Ad, length int) choice {
	var best choice
	met := map[string]bool{} // the Rivals of those that are taken
	var decide func(c choice, number int)
	decide = func(c choice, number int) {
		if number == len(ads) {
			if c.betterThan(best) {
				best = c
			}
			return
		}
		ad := ads[number]
		if c.length+ad.Length <= length && !met[ad.Rival] {
			met[ad.Rival] = ad.Rival != ""
			decide(c.with(number, ad), number+1)
			met[ad.Rival] = false
		}
		decide(c, number+1)
	}
	decide(choice{}, 0)
	return best
}
