package ladder_test

import (
	"fmt"
	"math"
	"math/rand"
	"testing"

	"headend/api"
	"headend/ladder"
)

// ratio returns a ratio as it is, also if it is not in lowest terms.
func ratio(num, den int) api.Ratio { return api.Ratio{Num: num, Den: den} }

func TestSteps(t *testing.T) {
	for what, c := range map[string]struct {
		l    []api.Rung
		most api.Ratio
		want []int // none: there is a gap
	}{
		"none":                       {nil, ratio(2, 1), nil},
		"one":                        {points(5, 0), ratio(1, 1), []int{0}},
		"the example":                {example(), ratio(2, 1), []int{0, 1, 3}},
		"at once":                    {example(), ratio(4, 1), []int{0, 3}},
		"just not at once":           {example(), ratio(3999, 1000), []int{0, 1, 3}},
		"a gap":                      {example(), ratio(1999, 1000), nil},
		"a gap at last":              {points(10, 1, 20, 2, 41, 3), ratio(2, 1), nil},
		"a gap behind the first one": {points(10, 1, 21, 2, 41, 3), ratio(2, 1), nil},
		"no step":                    {points(10, 1, 10, 2, 11, 3), ratio(1, 1), nil},
		"one Rate":                   {points(10, 1, 10, 2, 10, 3), ratio(1, 1), []int{0, 2}},
		"not in lowest terms":        {example(), ratio(20, 10), []int{0, 1, 3}},
		"the least list":             {points(10, 1, 14, 1, 15, 1, 20, 1, 30, 1), ratio(2, 1), []int{0, 2, 4}},
		"the least list of many":     {points(10, 1, 11, 1, 12, 1, 19, 1, 20, 1, 22, 1, 24, 1, 40, 1, 41, 1), ratio(2, 1), []int{0, 1, 5, 8}},
		"not as far as one can":      {points(8, 1, 9, 1, 16, 1, 17, 1, 33, 1, 34, 1), ratio(2, 1), []int{0, 1, 3, 5}},
		"Quality does not matter":    {points(10, 9, 20, 5, 40, 1), ratio(2, 1), []int{0, 1, 2}},
		"the greatest":               {points(1, 0, api.MaxBits, 0), ratio(api.MaxBits, 1), []int{0, 1}},
		"just not the greatest":      {points(1, 0, api.MaxBits, 0), ratio(api.MaxBits-1, 1), nil},
		"the greatest numbers":       {points(api.MaxBits-1, 0, api.MaxBits, 0), ratio(api.MaxBits, api.MaxBits-1), []int{0, 1}},
		"just not so great":          {points(api.MaxBits-2, 0, api.MaxBits-1, 0), ratio(api.MaxBits, api.MaxBits-1), nil},
		"as many as there can be":    {many(api.MaxRenditions), ratio(1001, 1000), below(api.MaxRenditions)},
		"as many at once":            {many(api.MaxRenditions), ratio(2, 1), []int{0, api.MaxRenditions - 1}},
	} {
		got, has, f := ladder.Steps(c.l, c.most)
		is(t, "Steps "+what, got, f, c.want)
		is(t, "Steps "+what, has, f, len(c.want) > 0)
	}
}

// badSteps are bounds of steps that are none.
var badSteps = []api.Ratio{
	ratio(0, 1), ratio(1, 0), ratio(0, 0), ratio(-1, 1), ratio(-2, -1), ratio(2, -1), ratio(1, 2), ratio(api.MaxBits-1, api.MaxBits),
	ratio(api.MaxBits+1, 1), ratio(api.MaxBits+1, api.MaxBits+1), ratio(math.MaxInt, math.MaxInt), ratio(math.MinInt, math.MinInt),
}

func TestStepFaults(t *testing.T) {
	for _, most := range badSteps {
		for _, l := range [][]api.Rung{nil, example()} {
			got, has, f := ladder.Steps(l, most)
			isNot(t, fmt.Sprint("Steps ", most), got, f, api.ErrRange)
			isNot(t, fmt.Sprint("Steps ", most), has, f, api.ErrRange)
			flaws, f := ladder.Wrong(l, most)
			isNot(t, fmt.Sprint("Wrong ", most), flaws, f, api.ErrRange)
		}
	}
}

func isGap(before, r api.Rung, most api.Ratio) bool {
	return rat(r.Rate, before.Rate).Cmp(rat(most.Num, most.Den)) > 0
}

// stepsOf returns the first one of all choices without a gap that have both ends.
func stepsOf(l []api.Rung, most api.Ratio) []int {
	for _, numbers := range listsOf(len(l), len(l)) {
		n := len(numbers)
		isGood := n > 0 && numbers[0] == 0 && numbers[n-1] == len(l)-1
		for i := range n - 1 {
			isGood = isGood && !isGap(l[numbers[i]], l[numbers[i+1]], most)
		}
		if isGood {
			return numbers
		}
	}
	return nil
}

// wrongOf returns the flaws as the definitions say.
func wrongOf(l []api.Rung, most api.Ratio) []api.Flaw {
	var flaws []api.Flaw
	for i, r := range l {
		dear, tall := false, false
		for k, other := range l {
			dear = dear || beats(other, r)
			tall = tall || k > i && r.Height > other.Height
		}
		if dear {
			flaws = append(flaws, api.Flaw{Kind: api.FlawDear, At: i})
		}
		if tall {
			flaws = append(flaws, api.Flaw{Kind: api.FlawTall, At: i})
		}
		if i > 0 && isGap(l[i-1], r, most) {
			flaws = append(flaws, api.Flaw{Kind: api.FlawGap, At: i})
		}
	}
	return flaws
}

func TestManySteps(t *testing.T) {
	r := rand.New(rand.NewSource(7))
	long := 0
	for range 3000 {
		l := draw(r, 9)
		if r.Intn(2) == 0 { // closer to one another
			for i := range l {
				l[i].Rate += 8
			}
		}
		den := 1 + r.Intn(6)
		most := ratio(den+r.Intn(2*den), den)
		want := stepsOf(l, most)
		got, has, f := ladder.Steps(l, most)
		is(t, fmt.Sprint("Steps ", l, most), got, f, want)
		is(t, fmt.Sprint("Steps ", l, most), has, f, want != nil)
		flaws, f := ladder.Wrong(l, most)
		is(t, fmt.Sprint("Wrong ", l, most), flaws, f, wrongOf(l, most))
		if len(want) > 2 {
			long++
		}
	}
	if long < 300 {
		t.Error("too few steps", long)
	}
}

func TestWrong(t *testing.T) {
	dear, tall, gap := api.FlawDear, api.FlawTall, api.FlawGap
	for what, c := range map[string]struct {
		l    []api.Rung
		most api.Ratio
		want []api.Flaw
	}{
		"none":                   {nil, ratio(1, 1), nil},
		"one":                    {points(5, 0), ratio(1, 1), nil},
		"the example":            {example(), ratio(3, 2), []api.Flaw{{Kind: gap, At: 1}}},
		"nothing":                {example(), ratio(2, 1), nil},
		"all":                    {rungs(10, 200, 9, 20, 200, 8, 50, 100, 9), ratio(2, 1), []api.Flaw{{Kind: tall, At: 0}, {Kind: dear, At: 1}, {Kind: tall, At: 1}, {Kind: dear, At: 2}, {Kind: gap, At: 2}}},
		"all of one":             {rungs(10, 100, 9, 30, 200, 8, 50, 100, 10), ratio(2, 1), []api.Flaw{{Kind: dear, At: 1}, {Kind: tall, At: 1}, {Kind: gap, At: 1}}},
		"tall, not side by side": {rungs(10, 200, 1, 20, 300, 2, 30, 100, 3), ratio(2, 1), []api.Flaw{{Kind: tall, At: 0}, {Kind: tall, At: 1}}},
		"as tall":                {rungs(10, 200, 1, 20, 200, 2), ratio(2, 1), nil},
		"tall in one Rate":       {rungs(10, 200, 1, 10, 100, 1), ratio(2, 1), []api.Flaw{{Kind: tall, At: 0}}},
		"equal":                  {points(10, 5, 10, 5), ratio(1, 1), nil},
		"dear in one Rate":       {points(10, 5, 10, 6), ratio(1, 1), []api.Flaw{{Kind: dear, At: 0}}},
		"just no gap":            {points(10, 1, 25, 2), ratio(5, 2), nil},
		"just a gap":             {points(10, 1, 26, 2), ratio(5, 2), []api.Flaw{{Kind: gap, At: 1}}},
		"the greatest gap":       {points(1, 0, api.MaxBits, 1), ratio(api.MaxBits-1, 1), []api.Flaw{{Kind: gap, At: 1}}},
		"just not the greatest":  {points(1, 0, api.MaxBits, 1), ratio(api.MaxBits, 1), nil},
	} {
		got, f := ladder.Wrong(c.l, c.most)
		is(t, "Wrong "+what, got, f, c.want)
	}
}

func TestCapped(t *testing.T) {
	tall := rungs(10, 300, 1, 20, 100, 2, 20, 100, 2, 30, 200, 3)
	for what, c := range map[string]struct {
		l            []api.Rung
		rate, height int
		want         []int
	}{
		"none":                     {nil, 0, 1, nil},
		"the example":              {example(), 2500, 1080, []int{0, 1}},
		"all":                      {tall, 30, 300, []int{0, 1, 2, 3}},
		"the greatest bounds":      {tall, api.MaxBits, api.MaxHeight, []int{0, 1, 2, 3}},
		"by rate":                  {tall, 29, 300, []int{0, 1, 2}},
		"by height":                {tall, 30, 299, []int{1, 2, 3}},
		"by both":                  {tall, 29, 199, []int{1, 2}},
		"too dear: the least":      {tall, 9, 900, []int{1}},
		"no rate":                  {tall, 0, 900, []int{1}},
		"too tall: the least":      {tall, 900, 99, []int{1}},
		"either too dear or tall":  {tall, 19, 299, []int{1}},
		"the least height at last": {rungs(10, 300, 1, 20, 200, 2, 30, 100, 3), 9, 900, []int{2}},
		"the least values":         {rungs(1, 1, 0), 1, 1, []int{0}},
		"below the least values":   {rungs(1, 1, 0), 0, 1, []int{0}},
		"the greatest values":      {rungs(api.MaxBits, api.MaxHeight, 0), api.MaxBits, api.MaxHeight, []int{0}},
		"as many as there can be":  {many(api.MaxRenditions), api.MaxBits, api.MaxHeight, below(api.MaxRenditions)},
	} {
		got, f := ladder.Capped(c.l, c.rate, c.height)
		is(t, "Capped "+what, got, f, c.want)
	}
	for _, c := range []struct{ rate, height int }{{-1, 1}, {api.MaxBits + 1, 1}, {0, 0}, {0, -1}, {0, api.MaxHeight + 1}, {math.MinInt, math.MaxInt}} {
		for _, l := range [][]api.Rung{nil, example()} {
			got, f := ladder.Capped(l, c.rate, c.height)
			isNot(t, fmt.Sprint("Capped ", c), got, f, api.ErrRange)
		}
	}
}

func TestManyCapped(t *testing.T) {
	r := rand.New(rand.NewSource(8))
	for range 3000 {
		l := draw(r, 6)
		rate, height := r.Intn(17), 1+r.Intn(4)
		var want []int
		least := -1
		for i, x := range l {
			if x.Rate <= rate && x.Height <= height {
				want = append(want, i)
			}
			isLess := least >= 0 && (x.Height < l[least].Height || x.Height == l[least].Height && x.Rate < l[least].Rate)
			if least < 0 || isLess {
				least = i
			}
		}
		if want == nil && least >= 0 {
			want = []int{least}
		}
		got, f := ladder.Capped(l, rate, height)
		is(t, fmt.Sprint("Capped ", l, rate, height), got, f, want)
	}
}
