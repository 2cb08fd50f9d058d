package ladder_test

import (
	"fmt"
	"math"
	"math/rand"
	"slices"
	"testing"

	"headend/api"
	"headend/ladder"
)

// viewers returns viewers of triples of Rate, Height and Weight.
func viewers(triples ...int) []api.Viewer {
	var crowd []api.Viewer
	for i := 0; i+2 < len(triples); i += 3 {
		crowd = append(crowd, api.Viewer{Rate: triples[i], Height: triples[i+1], Weight: triples[i+2]})
	}
	return crowd
}

// heaviest returns as many viewers as there can be, each of the greatest values.
func heaviest() []api.Viewer {
	return slices.Repeat(viewers(api.MaxBits, api.MaxHeight, api.MaxWeight), api.MaxViewers)
}

func TestCheckCrowd(t *testing.T) {
	for what, l := range map[string][]api.Viewer{
		"nobody":                 nil,
		"an empty list":          {},
		"the least values":       viewers(0, 1, 1),
		"the greatest values":    heaviest(),
		"equal ones in no order": viewers(5, 5, 5, 5, 5, 5, 3, 9, 1),
	} {
		if f := ladder.CheckCrowd(l); f != api.OK {
			t.Error("CheckCrowd", what, f)
		}
	}
}

// badCrowds are lists, and the faults that they have.
var badCrowds = []struct {
	what string
	l    []api.Viewer
	want api.Fault
}{
	{"too many", append(heaviest(), viewers(1, 1, 1)...), api.ErrLarge},
	{"too many of nothing", make([]api.Viewer, api.MaxViewers+1), api.ErrLarge},
	{"Rate below 0", viewers(-1, 1, 1), api.ErrRange},
	{"Rate", viewers(api.MaxBits+1, 1, 1), api.ErrRange},
	{"Height 0", viewers(1, 0, 1), api.ErrRange},
	{"Height", viewers(1, api.MaxHeight+1, 1), api.ErrRange},
	{"Weight 0", viewers(1, 1, 0), api.ErrRange},
	{"Weight below 0", viewers(1, 1, math.MinInt), api.ErrRange},
	{"Weight", viewers(1, 1, api.MaxWeight+1), api.ErrRange},
	{"the second one", viewers(1, 1, 1, -1, 1, 1), api.ErrRange},
	{"the last one", append(heaviest()[1:], api.Viewer{}), api.ErrRange},
}

// The fault of the crowd comes after that of the renditions, and before all others.
func TestCrowdFaults(t *testing.T) {
	for _, c := range badCrowds {
		if f := ladder.CheckCrowd(c.l); f != c.want {
			t.Error("CheckCrowd", c.what, f, c.want)
		}
		for _, l := range [][]api.Rung{nil, example(), many(api.MaxChosen + 1)} {
			n, f := ladder.Worth(l, c.l)
			isNot(t, "Worth "+c.what, n, f, c.want)
			for _, most := range []int{1, -1, api.MaxRenditions + 1} {
				best, sum, f := ladder.Best(l, c.l, most)
				isNot(t, "Best "+c.what, choiceOf(best, sum), f, c.want)
				best, sum, f = ladder.Along(l, c.l, most)
				isNot(t, "Along "+c.what, choiceOf(best, sum), f, c.want)
			}
			if len(c.l) == 1 {
				i, has, f := ladder.Takes(l, c.l[0])
				isNot(t, "Takes "+c.what, taken{i, has}, f, c.want)
			}
		}
	}
}

func TestTakes(t *testing.T) {
	tall := rungs(10, 100, 5, 20, 300, 8, 30, 200, 7, 40, 200, 7)
	for what, c := range map[string]struct {
		l    []api.Rung
		v    api.Viewer
		want taken
	}{
		"none":             {nil, api.Viewer{Rate: 9, Height: 9, Weight: 1}, taken{}},
		"too dear":         {tall, api.Viewer{Rate: 9, Height: 900, Weight: 1}, taken{}},
		"too tall":         {tall, api.Viewer{Rate: 90, Height: 99, Weight: 1}, taken{}},
		"no rate":          {tall, api.Viewer{Rate: 0, Height: 900, Weight: 1}, taken{}},
		"just this rate":   {tall, api.Viewer{Rate: 10, Height: 900, Weight: 1}, taken{0, true}},
		"just this height": {tall, api.Viewer{Rate: 90, Height: 100, Weight: 1}, taken{0, true}},
		"the best one":     {tall, api.Viewer{Rate: 90, Height: 900, Weight: 1}, taken{1, true}},
		"the best one that is not too tall, the first of several": {tall, api.Viewer{Rate: 90, Height: 299, Weight: 1}, taken{2, true}},
		"one that is cheap and tall":                              {tall, api.Viewer{Rate: 20, Height: 299, Weight: 1}, taken{0, true}},
		"Quality 0":                                               {points(10, 0, 20, 0), api.Viewer{Rate: 30, Height: 900, Weight: 1}, taken{0, true}},
		"equal":                                                   {points(10, 5, 10, 5), api.Viewer{Rate: 10, Height: 100, Weight: 1}, taken{0, true}},
		"the least and the first":                                 {rungs(1, 1, 0), api.Viewer{Rate: 1, Height: 1, Weight: 1}, taken{0, true}},
		"the greatest":                                            {rungs(1, 1, 0, api.MaxBits, api.MaxHeight, api.MaxQuality), heaviest()[0], taken{1, true}},
		"as many as there can be":                                 {many(api.MaxRenditions), heaviest()[0], taken{api.MaxRenditions - 1, true}},
	} {
		i, has, f := ladder.Takes(c.l, c.v)
		is(t, "Takes "+what, taken{i, has}, f, c.want)
	}
}

// takenBy returns what a viewer takes, and its Quality, as the definition says.
func takenBy(v api.Viewer, l []api.Rung) (taken, int) {
	x, quality := taken{}, 0
	for i := len(l) - 1; i >= 0; i-- {
		if l[i].Rate <= v.Rate && l[i].Height <= v.Height && l[i].Quality >= quality {
			x, quality = taken{i, true}, l[i].Quality
		}
	}
	return x, quality
}

func worthOf(l []api.Rung, crowd []api.Viewer) int {
	sum := 0
	for _, v := range crowd {
		_, quality := takenBy(v, l)
		sum += v.Weight * quality
	}
	return sum
}

func TestWorth(t *testing.T) {
	top := rungs(api.MaxBits, api.MaxHeight, api.MaxQuality)
	for what, c := range map[string]struct {
		l     []api.Rung
		crowd []api.Viewer
		want  int
	}{
		"none":                  {nil, viewers(5, 5, 5), 0},
		"nobody":                {example(), nil, 0},
		"two":                   {example(), viewers(2500, 1080, 1, 4000, 1080, 1), 150},
		"weights":               {example(), viewers(2500, 1080, 3, 4000, 1080, 2), 360},
		"one who takes none":    {example(), viewers(999, 1080, 3, 4000, 1080, 2, 4000, 99, 7), 180},
		"all who take none":     {example(), viewers(999, 1080, 3), 0},
		"one who has no rate":   {example(), viewers(0, 1080, 3), 0},
		"the greatest":          {top, heaviest(), api.MaxViewers * api.MaxWeight * api.MaxQuality},
		"a rate below theirs":   {top, viewers(api.MaxBits-1, api.MaxHeight, 1), 0},
		"a height below theirs": {top, viewers(api.MaxBits, api.MaxHeight-1, 1), 0},
	} {
		n, f := ladder.Worth(c.l, c.crowd)
		is(t, "Worth "+what, n, f, c.want)
	}
}

func TestManyCrowds(t *testing.T) {
	r := rand.New(rand.NewSource(3))
	for range 3000 {
		l, crowd := draw(r, 12), drawCrowd(r, 6)
		n, f := ladder.Worth(l, crowd)
		is(t, fmt.Sprint("Worth ", l, crowd), n, f, worthOf(l, crowd))
		for _, v := range crowd {
			i, has, f := ladder.Takes(l, v)
			want, _ := takenBy(v, l)
			is(t, fmt.Sprint("Takes ", l, v), taken{i, has}, f, want)
		}
	}
}
