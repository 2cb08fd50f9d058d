package ladder_test

import (
	"fmt"
	"math"
	"math/rand"
	"slices"
	"testing"

	"headend/api"
	"headend/ladder"
)

func TestBest(t *testing.T) {
	two := viewers(2500, 1080, 1, 4000, 1080, 1)
	top := rungs(api.MaxBits, api.MaxHeight, api.MaxQuality)
	for what, c := range map[string]struct {
		l     []api.Rung
		crowd []api.Viewer
		most  int
		want  []int
		worth int
	}{
		"no renditions":           {nil, two, 5, nil, 0},
		"nobody":                  {example(), nil, 5, nil, 0},
		"most 0":                  {example(), two, 0, nil, 0},
		"one":                     {example(), two, 1, []int{1}, 120},
		"two":                     {example(), two, 2, []int{1, 3}, 150},
		"no more than are needed": {example(), two, api.MaxRenditions, []int{1, 3}, 150},
		"nobody takes one":        {example(), viewers(999, 1080, 5, 4000, 99, 5), 2, nil, 0},
		"all of Quality 0":        {points(1, 0, 2, 0), viewers(9, 900, 1), 2, nil, 0},
		"weights":                 {example(), viewers(2500, 1080, 1, 4000, 1080, 9), 1, []int{3}, 810},
		// of one Worth the fewest, of these the least list
		"the first of equal ones":        {points(1, 5, 1, 5, 2, 5), viewers(2, 100, 1), 2, []int{0}, 5},
		"fewer before less":              {rungs(1, 1, 5, 2, 9, 4, 3, 9, 5), viewers(9, 9, 1, 9, 1, 1), 2, []int{0}, 10},
		"one that is worth two":          {points(10, 4, 20, 6, 30, 5), viewers(15, 100, 3, 25, 100, 1, 35, 100, 5), 2, []int{0, 1}, 48},
		"one instead of two":             {points(10, 10, 20, 15), viewers(15, 100, 1, 25, 100, 1), 1, []int{0}, 20},
		"the least list of those of two": {points(10, 3, 10, 3, 20, 6, 20, 6), viewers(15, 100, 1, 25, 100, 1), 2, []int{0, 2}, 9},
		"what is best alone is not best": {points(10, 6, 20, 7, 30, 9), viewers(15, 100, 5, 25, 100, 4, 35, 100, 4), 2, []int{0, 2}, 90},
		"heights":                        {rungs(10, 900, 9, 20, 100, 5), viewers(20, 100, 2, 20, 900, 1), 1, []int{1}, 15},
		"the greatest":                   {top, heaviest(), 1, []int{0}, api.MaxViewers * api.MaxWeight * api.MaxQuality},
		"as many as there can be":        {many(api.MaxChosen), viewers(2000, 900, 1), 1, []int{api.MaxChosen - 1}, api.MaxChosen - 1},
	} {
		l, worth, f := ladder.Best(c.l, c.crowd, c.most)
		is(t, "Best "+what, choiceOf(l, worth), f, choiceOf(c.want, c.worth))
	}
}

// Each viewer wants another rendition, so that all but the first one, of Quality 0, are chosen.
func TestBestOfAll(t *testing.T) {
	l := many(api.MaxChosen)
	var crowd []api.Viewer
	sum := 0
	for _, r := range l {
		crowd = append(crowd, api.Viewer{Rate: r.Rate, Height: api.MaxHeight, Weight: 1})
		sum += r.Quality
	}
	best, worth, f := ladder.Best(l, crowd, api.MaxRenditions)
	is(t, "Best", choiceOf(best, worth), f, choiceOf(below(api.MaxChosen)[1:], sum))
	best, worth, f = ladder.Best(l, crowd, api.MaxChosen-2)
	is(t, "Best but one", choiceOf(best, worth), f, choiceOf(below(api.MaxChosen - 1)[1:], sum-1)) // without any one it is 1 less
	l, crowd = many(api.MaxRenditions), nil
	for _, r := range l {
		crowd = append(crowd, api.Viewer{Rate: r.Rate, Height: 1, Weight: api.MaxWeight})
	}
	best, worth, f = ladder.Along(l, crowd, api.MaxRenditions)
	is(t, "Along", choiceOf(best, worth), f, choiceOf(below(api.MaxRenditions)[1:], api.MaxWeight*99*100/2))
}

func TestChoiceFaults(t *testing.T) {
	for _, l := range [][]api.Rung{nil, example(), many(api.MaxChosen + 1)} {
		for _, most := range []int{-1, math.MinInt, api.MaxRenditions + 1, math.MaxInt} { // before too many
			best, sum, f := ladder.Best(l, nil, most)
			isNot(t, fmt.Sprint("Best ", most), choiceOf(best, sum), f, api.ErrRange)
			best, sum, f = ladder.Along(l, nil, most)
			isNot(t, fmt.Sprint("Along ", most), choiceOf(best, sum), f, api.ErrRange)
		}
	}
	for _, n := range []int{api.MaxChosen + 1, api.MaxRenditions} {
		best, sum, f := ladder.Best(many(n), nil, 1)
		isNot(t, fmt.Sprint("Best of ", n), choiceOf(best, sum), f, api.ErrLarge)
		best, sum, f = ladder.Best(many(n), nil, 0)
		isNot(t, fmt.Sprint("Best of ", n), choiceOf(best, sum), f, api.ErrLarge)
	}
}

// bestOf returns the best of all choices, one after another: fewer first, of as many the least list first.
func bestOf(l []api.Rung, crowd []api.Viewer, most int) choice {
	var best []int
	worth := 0
	for _, numbers := range listsOf(len(l), most) {
		if n := worthOf(picked(l, numbers), crowd); n > worth {
			best, worth = numbers, n
		}
	}
	return choiceOf(best, worth)
}

func TestManyBest(t *testing.T) {
	r := rand.New(rand.NewSource(4))
	chosen := 0
	for range 1500 {
		l, crowd, most := draw(r, 7), drawCrowd(r, 5), r.Intn(6)
		want := bestOf(l, crowd, most)
		best, worth, f := ladder.Best(l, crowd, most)
		is(t, fmt.Sprint("Best ", l, crowd, most), choiceOf(best, worth), f, want)
		if want.worth > 0 {
			chosen++
		}
	}
	if chosen < 500 {
		t.Error("too few choices", chosen)
	}
}

// flat returns a crowd as if its Heights did not matter.
func flat(crowd []api.Viewer) []api.Viewer {
	crowd = slices.Clone(crowd)
	for i := range crowd {
		crowd[i].Height = api.MaxHeight
	}
	return crowd
}

func TestAlong(t *testing.T) {
	for what, c := range map[string]struct {
		l     []api.Rung
		crowd []api.Viewer
		most  int
		want  []int
		worth int
	}{
		"no renditions":           {nil, viewers(5, 5, 5), 5, nil, 0},
		"nobody":                  {example(), nil, 5, nil, 0},
		"most 0":                  {example(), viewers(9999, 9, 1), 0, nil, 0},
		"one":                     {example(), viewers(2500, 1, 1, 4000, 1, 1), 1, []int{1}, 120},
		"no more than are needed": {example(), viewers(2500, 1, 1, 4000, 1, 1), 4, []int{1, 3}, 150},
		"nobody takes one":        {example(), viewers(999, 900, 5), 2, nil, 0},
		"heights do not matter":   {rungs(10, api.MaxHeight, 9, 20, 100, 5), viewers(20, 1, 2), 2, []int{0}, 18},
		"one that is worse":       {points(10, 9, 20, 5, 30, 10), viewers(20, 1, 2, 30, 1, 1), 3, []int{0, 2}, 28},
		"one that is worse alone": {points(10, 9, 20, 5), viewers(9, 1, 2), 1, nil, 0},
		"equal":                   {points(10, 9, 10, 9, 10, 9), viewers(10, 1, 2), 3, []int{0}, 18},
		"not the best one alone":  {points(10, 6, 20, 7, 30, 9), viewers(15, 1, 5, 25, 1, 4, 35, 1, 4), 2, []int{0, 2}, 90},
		"the greatest":            {rungs(api.MaxBits, api.MaxHeight, api.MaxQuality), heaviest(), 1, []int{0}, api.MaxViewers * api.MaxWeight * api.MaxQuality},
	} {
		l, worth, f := ladder.Along(c.l, c.crowd, c.most)
		is(t, "Along "+what, choiceOf(l, worth), f, choiceOf(c.want, c.worth))
	}
}

// isAlong expects a choice of the greatest worth; the chapter does not say which one of several.
func isAlong(t *testing.T, l []api.Rung, crowd []api.Viewer, most, want int) {
	t.Helper()
	best, worth, f := ladder.Along(l, crowd, most)
	is(t, "Along", worth, f, want)
	for i, n := range best {
		if n < 0 || n >= len(l) || i > 0 && n <= best[i-1] {
			t.Fatal("Along", best)
		}
	}
	if len(best) > most || worthOf(picked(l, best), flat(crowd)) != want {
		t.Error("Along", len(l), crowd, most, best, want)
	}
}

func TestManyAlong(t *testing.T) {
	r := rand.New(rand.NewSource(5))
	for range 1500 {
		l, crowd, most := draw(r, 8), drawCrowd(r, 6), r.Intn(6)
		isAlong(t, l, crowd, most, bestOf(l, flat(crowd), most).worth)
	}
	for range 100 { // of several choices the same one as Best, which the chapter leaves open
		l, crowd, most := draw(r, api.MaxChosen), drawCrowd(r, 9), r.Intn(6)
		want, sum, _ := ladder.Best(l, flat(crowd), most)
		best, worth, f := ladder.Along(l, crowd, most)
		is(t, fmt.Sprint("Along ", l, crowd, most), choiceOf(best, worth), f, choiceOf(want, sum))
	}
	for range 5 { // of more than can be chosen by Best
		l, crowd := draw(r, api.MaxRenditions), drawCrowd(r, api.MaxViewers)
		isAlong(t, l, crowd, 2, bestOf(l, flat(crowd), 2).worth)
		isAlong(t, l, crowd, api.MaxRenditions, worthOf(l, flat(crowd)))
	}
}

func TestCommon(t *testing.T) {
	one, other := points(10, 5, 20, 8), points(10, 2, 20, 3, 30, 9)
	top := rungs(api.MaxBits, api.MaxHeight, api.MaxQuality)
	for what, c := range map[string]struct {
		l       [][]api.Rung
		weights []int
		most    int
		want    []int
		worth   int
	}{
		"no films":                      {nil, nil, 5, nil, 0},
		"no renditions":                 {[][]api.Rung{nil, {}}, []int{1, 2}, 5, nil, 0},
		"the example":                   {[][]api.Rung{example()}, []int{2}, 1, []int{4000}, 180},
		"most 0":                        {[][]api.Rung{example()}, []int{2}, 0, nil, 0},
		"no more than needed":           {[][]api.Rung{example()}, []int{2}, 4, []int{4000}, 180},
		"two films":                     {[][]api.Rung{one, other}, []int{1, 1}, 1, []int{20}, 11},
		"two films, two rates":          {[][]api.Rung{one, other}, []int{1, 1}, 2, []int{20, 30}, 17},
		"weights":                       {[][]api.Rung{one, other}, []int{1, 2}, 1, []int{30}, 18},
		"a film without a rate":         {[][]api.Rung{one, other, points(40, 1)}, []int{1, 1, 1}, 2, []int{20, 30}, 17},
		"several of one Rate":           {[][]api.Rung{points(10, 2, 10, 7, 10, 6, 20, 1)}, []int{1}, 1, []int{10}, 7},
		"the least rate":                {[][]api.Rung{points(10, 4, 20, 4), points(20, 4, 30, 4)}, []int{1, 1}, 1, []int{20}, 8},
		"the fewest":                    {[][]api.Rung{points(10, 4, 20, 4), points(20, 4, 30, 4)}, []int{1, 1}, 3, []int{20}, 8},
		"the least list":                {[][]api.Rung{points(10, 4, 20, 4), points(30, 4, 40, 4)}, []int{1, 1}, 3, []int{10, 30}, 8},
		"Quality 0":                     {[][]api.Rung{points(10, 0)}, []int{1}, 1, nil, 0},
		"the greatest":                  {slices.Repeat([][]api.Rung{top}, api.MaxFilms), slices.Repeat([]int{api.MaxWeight}, api.MaxFilms), api.MaxRenditions, []int{api.MaxBits}, api.MaxFilms * api.MaxWeight * api.MaxQuality},
		"as many rates as there can be": {[][]api.Rung{many(api.MaxChosen), many(3)}, []int{1, 1}, 2, []int{1002, 1000 + api.MaxChosen - 1}, 2 + api.MaxChosen - 1},
	} {
		l, worth, f := ladder.Common(c.l, c.weights, c.most)
		is(t, "Common "+what, choiceOf(l, worth), f, choiceOf(c.want, c.worth))
	}
}

func TestCommonFaults(t *testing.T) {
	two := [][]api.Rung{example(), points(5, 5)}
	bad := points(0, 0)
	wide := [][]api.Rung{many(api.MaxChosen), points(1, 1)}
	for what, c := range map[string]struct {
		l       [][]api.Rung
		weights []int
		most    int
		want    api.Fault
	}{
		"too many films":         {append(make([][]api.Rung, api.MaxFilms), bad), nil, -1, api.ErrLarge},
		"too many renditions":    {[][]api.Rung{many(api.MaxRenditions + 1)}, nil, -1, api.ErrLarge},
		"film by film":           {[][]api.Rung{bad, many(api.MaxRenditions + 1)}, nil, -1, api.ErrRange},
		"the last film":          {[][]api.Rung{example(), bad}, nil, -1, api.ErrRange},
		"too few weights":        {two, []int{0}, -1, api.ErrForm},
		"too many weights":       {two, []int{0, 0, 0}, -1, api.ErrForm},
		"weights without films":  {nil, []int{1}, 1, api.ErrForm},
		"no weights":             {wide, nil, -1, api.ErrForm},
		"Weight 0":               {two, []int{1, 0}, 1, api.ErrRange},
		"Weight below 0":         {two, []int{-1, 1}, 1, api.ErrRange},
		"Weight":                 {two, []int{1, api.MaxWeight + 1}, 1, api.ErrRange},
		"Weight before too many": {wide, []int{1, 0}, 1, api.ErrRange},
		"most below 0":           {two, []int{1, 1}, -1, api.ErrRange},
		"most":                   {two, []int{1, 1}, api.MaxRenditions + 1, api.ErrRange},
		"most before too many":   {wide, []int{1, 1}, -1, api.ErrRange},
		"too many rates":         {wide, []int{1, 1}, 1, api.ErrLarge},
		"too many rates of one":  {[][]api.Rung{many(api.MaxChosen + 1)}, []int{1}, 0, api.ErrLarge},
	} {
		l, worth, f := ladder.Common(c.l, c.weights, c.most)
		isNot(t, "Common "+what, choiceOf(l, worth), f, c.want)
	}
}

func TestManyCommon(t *testing.T) {
	r := rand.New(rand.NewSource(6))
	for range 1000 {
		var films [][]api.Rung
		var weights, rates []int
		for range r.Intn(5) {
			film := draw(r, 4)
			for i := range film {
				film[i].Rate = (film[i].Rate + 2) / 3 // from 1 to 5
				rates = append(rates, film[i].Rate)
			}
			films, weights = append(films, film), append(weights, 1+r.Intn(4))
		}
		slices.Sort(rates)
		rates = slices.Compact(rates)
		most := r.Intn(4)
		var want []int
		worth := 0
		for _, numbers := range listsOf(len(rates), most) {
			var chosen []int
			for _, i := range numbers {
				chosen = append(chosen, rates[i])
			}
			sum := 0
			for i, film := range films {
				quality := 0
				for _, x := range film {
					if slices.Contains(chosen, x.Rate) {
						quality = max(quality, x.Quality)
					}
				}
				sum += weights[i] * quality
			}
			if sum > worth {
				want, worth = chosen, sum
			}
		}
		l, sum, f := ladder.Common(films, weights, most)
		is(t, fmt.Sprint("Common ", films, weights, most), choiceOf(l, sum), f, choiceOf(want, worth))
	}
}
