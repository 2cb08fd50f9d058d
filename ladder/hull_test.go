package ladder_test

import (
	"fmt"
	"math/big"
	"math/rand"
	"testing"

	"headend/api"
	"headend/ladder"
)

func TestHull(t *testing.T) {
	for what, c := range map[string]struct {
		l    []api.Rung
		want []int
	}{
		"none":                                   {nil, nil},
		"one":                                    {points(5, 0), []int{0}},
		"the example":                            {example(), []int{0, 1, 3}},
		"on a line":                              {points(1, 10, 2, 20, 3, 30, 4, 40), []int{0, 3}},
		"just above a line":                      {points(1000, 10, 2000, 21, 3000, 30), []int{0, 1, 2}},
		"just below a line":                      {points(1000, 10, 2000, 19, 3000, 30), []int{0, 2}},
		"on two lines":                           {points(1, 10, 2, 30, 3, 50, 4, 60, 5, 70), []int{0, 2, 4}},
		"taken away one after another":           {points(1, 0, 2, 5, 3, 9, 4, 12, 5, 90), []int{0, 4}},
		"equal":                                  {points(1, 5, 1, 5), []int{0}},
		"the first one of the greatest":          {points(1, 5, 1, 9, 1, 9, 1, 6), []int{1}},
		"the first one of the greatest, dearest": {points(1, 1, 2, 5, 2, 9, 2, 9, 2, 8), []int{0, 2}},
		"one Rate in the middle":                 {points(1, 0, 5, 3, 5, 8, 5, 8, 9, 10), []int{0, 2, 4}},
		"one Rate below the line":                {points(1, 0, 5, 3, 5, 4, 9, 10), []int{0, 3}},
		"no better":                              {points(1, 5, 2, 5, 3, 5), []int{0}},
		"worse, and better again":                {points(1, 5, 2, 4, 3, 6), []int{0, 2}},
		"worse at last":                          {points(1, 5, 2, 9, 3, 8, 4, 9), []int{0, 1}},
		"Quality 0":                              {points(1, 0, 2, 0), []int{0}},
		"the greatest and the least":             {points(1, 0, 2, 1, api.MaxBits-1, api.MaxQuality-1, api.MaxBits, api.MaxQuality), []int{0, 1, 3}},
		"a corner by the least there can be":     {points(1, 0, 999999000, 999999, api.MaxBits, api.MaxQuality), []int{0, 1, 2}},
		"none by the least there can be":         {points(1, 0, 1001, 1, api.MaxBits, api.MaxQuality), []int{0, 2}},
		"heights do not matter":                  {rungs(1, 9, 10, 2, 1, 19, 3, 5, 30), []int{0, 2}},
		"as many as there can be":                {many(api.MaxRenditions), []int{0, api.MaxRenditions - 1}},
	} {
		got, f := ladder.Hull(c.l)
		is(t, "Hull "+what, got, f, c.want)
	}
	var round []api.Rung // all are corners
	for i := range api.MaxRenditions {
		round = append(round, api.Rung{Name: nameOf(i), Rate: 1 + i, Height: 1, Quality: 10000 - (100-i)*(100-i)})
	}
	got, f := ladder.Hull(round)
	is(t, "Hull of a round one", got, f, below(api.MaxRenditions))
}

// lineAt returns the quality at a rate on the line between two renditions.
func lineAt(a, b api.Rung, rate int) *big.Rat {
	x := rat(rate-a.Rate, b.Rate-a.Rate)
	x.Mul(x, rat(b.Quality-a.Quality, 1))
	return x.Add(x, rat(a.Quality, 1))
}

// hullOf returns the corners as the definition says, rendition by rendition.
func hullOf(l []api.Rung) []int {
	var corners []int
	for i, r := range l {
		isCorner := true
		for k, other := range l {
			if other.Rate == r.Rate && (other.Quality > r.Quality || other.Quality == r.Quality && k < i) {
				isCorner = false
			}
			for _, high := range l {
				if other.Rate < r.Rate && r.Rate < high.Rate && rat(r.Quality, 1).Cmp(lineAt(other, high, r.Rate)) <= 0 {
					isCorner = false
				}
			}
		}
		if n := len(corners); isCorner && (n == 0 || r.Quality > l[corners[n-1]].Quality) {
			corners = append(corners, i)
		}
	}
	return corners
}

// mixedOf returns the best of all pairs of renditions.
func mixedOf(l []api.Rung, rate int) *big.Rat {
	var best *big.Rat
	take := func(quality *big.Rat) {
		if best == nil || quality.Cmp(best) > 0 {
			best = quality
		}
	}
	for _, a := range l {
		if a.Rate > rate {
			continue
		}
		take(rat(a.Quality, 1))
		for _, b := range l {
			if b.Rate > rate {
				take(lineAt(a, b, rate))
			}
		}
	}
	return best
}

func TestManyHulls(t *testing.T) {
	r := rand.New(rand.NewSource(2))
	for range 3000 {
		l := draw(r, 12)
		if r.Intn(4) == 0 { // of the greatest values
			for i := range l {
				l[i].Rate, l[i].Quality = api.MaxBits-1000+l[i].Rate, api.MaxQuality-l[i].Quality
			}
		}
		got, f := ladder.Hull(l)
		is(t, fmt.Sprint("Hull ", l), got, f, hullOf(l))
		for _, rate := range []int{0, r.Intn(17), api.MaxBits - 1000 + r.Intn(17), api.MaxBits} {
			want := found{}
			if best := mixedOf(l, rate); best != nil {
				want.Ratio, want.is = ratioOf(best)
			}
			x, has, f := ladder.Mixed(l, rate)
			is(t, fmt.Sprint("Mixed ", l, rate), found{x, has}, f, want)
		}
	}
}

func TestMixed(t *testing.T) {
	for what, c := range map[string]struct {
		l    []api.Rung
		rate int
		want api.Ratio // Den 0: there is none
	}{
		"none":                              {nil, api.MaxBits, api.Ratio{}},
		"the example":                       {example(), 3000, api.Ratio{Num: 75, Den: 1}},
		"too dear":                          {example(), 999, api.Ratio{}},
		"nothing":                           {example(), 0, api.Ratio{}},
		"the first one":                     {example(), 1000, api.Ratio{Num: 30, Den: 1}},
		"the second one":                    {example(), 2000, api.Ratio{Num: 60, Den: 1}},
		"the last one":                      {example(), 4000, api.Ratio{Num: 90, Den: 1}},
		"from the last one on":              {example(), api.MaxBits, api.Ratio{Num: 90, Den: 1}},
		"between two corners":               {example(), 1001, api.Ratio{Num: 3003, Den: 100}},
		"between two others":                {example(), 3999, api.Ratio{Num: 17997, Den: 200}},
		"in lowest terms":                   {points(10, 1, 16, 3), 12, api.Ratio{Num: 5, Den: 3}},
		"Quality 0":                         {points(10, 0, 20, 0), 15, api.Ratio{Num: 0, Den: 1}},
		"Quality 0 of one":                  {points(10, 0), 10, api.Ratio{Num: 0, Den: 1}},
		"one that is worse does not matter": {points(10, 5, 20, 4), 20, api.Ratio{Num: 5, Den: 1}},
		"the best one of a Rate":            {points(10, 5, 10, 8, 20, 10, 20, 12), 15, api.Ratio{Num: 10, Den: 1}},
		"two corners, not those beside it":  {points(10, 0, 20, 1, 30, 20), 19, api.Ratio{Num: 9, Den: 1}},
		"equal":                             {points(10, 5, 10, 5), 11, api.Ratio{Num: 5, Den: 1}},
		"the greatest":                      {points(1, api.MaxQuality-1, api.MaxBits, api.MaxQuality), api.MaxBits - 1, api.Ratio{Num: (api.MaxQuality-1)*(api.MaxBits-1) + api.MaxBits - 2, Den: api.MaxBits - 1}},
		"the least":                         {points(1, 0, api.MaxBits, 1), 2, api.Ratio{Num: 1, Den: api.MaxBits - 1}},
	} {
		x, has, f := ladder.Mixed(c.l, c.rate)
		is(t, "Mixed "+what, found{x, has}, f, found{c.want, c.want.Den > 0})
	}
	for _, rate := range []int{-1, api.MaxBits + 1} {
		for _, l := range [][]api.Rung{nil, example()} {
			x, has, f := ladder.Mixed(l, rate)
			isNot(t, fmt.Sprint("Mixed ", rate), found{x, has}, f, api.ErrRange)
		}
	}
}
