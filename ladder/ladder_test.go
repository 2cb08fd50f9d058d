package ladder_test

import (
	"fmt"
	"math"
	"math/rand"
	"strings"
	"testing"

	"headend/api"
	"headend/ladder"
)

func TestCheckRenditions(t *testing.T) {
	long := strings.Repeat("a", api.MaxName)
	for what, l := range map[string][]api.Rung{
		"none":                  nil,
		"an empty list":         {},
		"the example":           example(),
		"the least values":      rungs(1, 1, 0),
		"the greatest values":   rungs(api.MaxBits, api.MaxHeight, api.MaxQuality),
		"the longest name":      {{Name: long, Rate: 1, Height: 1}},
		"as many as there can":  many(api.MaxRenditions),
		"several of one Rate":   {{Name: "a", Rate: 5, Height: 1}, {Name: "a-", Rate: 5, Height: 1}, {Name: "a0", Rate: 5, Height: 1}, {Name: "b", Rate: 5, Height: 1}},
		"names in no order":     {{Name: "c", Rate: 5, Height: 1}, {Name: "b", Rate: 6, Height: 1}, {Name: "a", Rate: 7, Height: 1}},
		"less height, and less": rungs(1, 9, 9, 2, 8, 8, 3, 7, 7),
	} {
		if f := ladder.CheckRenditions(l); f != api.OK {
			t.Error("CheckRenditions", what, f)
		}
	}
}

// badRungs are lists, and the faults that they have.
var badRungs = []struct {
	what string
	l    []api.Rung
	want api.Fault
}{
	{"too many", many(api.MaxRenditions + 1), api.ErrLarge},
	{"too many without names", make([]api.Rung, api.MaxRenditions+1), api.ErrLarge},
	{"no name", []api.Rung{{Rate: 1, Height: 1}}, api.ErrName},
	{"a digit", []api.Rung{{Name: "0a", Rate: 1, Height: 1}}, api.ErrName},
	{"a long name", []api.Rung{{Name: strings.Repeat("a", api.MaxName+1), Rate: 1, Height: 1}}, api.ErrName},
	{"Rate 0", rungs(0, 1, 1), api.ErrRange},
	{"Rate below 0", rungs(-1, 1, 1), api.ErrRange},
	{"Rate", rungs(api.MaxBits+1, 1, 1), api.ErrRange},
	{"the greatest Rate", rungs(math.MaxInt, 1, 1), api.ErrRange},
	{"Height 0", rungs(1, 0, 1), api.ErrRange},
	{"Height", rungs(1, api.MaxHeight+1, 1), api.ErrRange},
	{"Quality below 0", rungs(1, 1, -1), api.ErrRange},
	{"Quality", rungs(1, 1, api.MaxQuality+1), api.ErrRange},
	{"a lesser Rate", rungs(5, 1, 1, 4, 1, 1), api.ErrOrder},
	{"a lesser name", []api.Rung{{Name: "b", Rate: 5, Height: 1}, {Name: "a", Rate: 5, Height: 1}}, api.ErrOrder},
	{"the same twice", []api.Rung{{Name: "b", Rate: 5, Height: 1}, {Name: "b", Rate: 5, Height: 2}}, api.ErrOrder},
	{"a name twice", []api.Rung{{Name: "b", Rate: 5, Height: 1}, {Name: "b", Rate: 6, Height: 1}}, api.ErrTwice},
	{"a name twice, not side by side", []api.Rung{{Name: "b", Rate: 5, Height: 1}, {Name: "c", Rate: 6, Height: 1}, {Name: "b", Rate: 6 + 1, Height: 1}}, api.ErrTwice},
	// the first of several faults
	{"name before Rate", []api.Rung{{Name: "", Rate: 0, Height: 1}}, api.ErrName},
	{"range before order", changed(rungs(5, 1, 1, 4, 1, 1), 1, func(r *api.Rung) { r.Height = 0 }), api.ErrRange},
	{"order before twice", []api.Rung{{Name: "b", Rate: 5, Height: 1}, {Name: "c", Rate: 6, Height: 1}, {Name: "b", Rate: 5, Height: 1}}, api.ErrOrder},
	{"range of the first one", []api.Rung{{Name: "b", Rate: 0, Height: 1}, {Name: "", Rate: 6, Height: 1}}, api.ErrRange},
	{"order of the second one", []api.Rung{{Name: "b", Rate: 5, Height: 1}, {Name: "a", Rate: 5, Height: 1}, {Name: "", Rate: 6, Height: 1}}, api.ErrOrder},
	{"twice before the third one", []api.Rung{{Name: "b", Rate: 5, Height: 1}, {Name: "b", Rate: 6, Height: 1}, {Name: "", Rate: 0, Height: 1}}, api.ErrTwice},
}

// All functions with renditions first return the fault of these, before what is wrong with other arguments.
func TestRungFaults(t *testing.T) {
	badCrowd := make([]api.Viewer, api.MaxViewers+1)
	for _, c := range badRungs {
		if f := ladder.CheckRenditions(c.l); f != c.want {
			t.Error("CheckRenditions", c.what, f, c.want)
		}
		l, f := ladder.Sensible(c.l)
		isNot(t, "Sensible "+c.what, l, f, c.want)
		l, f = ladder.Hull(c.l)
		isNot(t, "Hull "+c.what, l, f, c.want)
		text, f := ladder.Text(c.l)
		isNot(t, "Text "+c.what, text, f, c.want)
		for _, n := range []int{1, -1} {
			x, has, f := ladder.Mixed(c.l, n)
			isNot(t, "Mixed "+c.what, found{x, has}, f, c.want)
			i, has, f := ladder.Takes(c.l, api.Viewer{Rate: n, Height: 1, Weight: 1})
			isNot(t, "Takes "+c.what, taken{i, has}, f, c.want)
			l, f = ladder.Capped(c.l, n, 0)
			isNot(t, "Capped "+c.what, l, f, c.want)
			most := api.Ratio{Num: n, Den: 1}
			l, has, f = ladder.Steps(c.l, most)
			isNot(t, "Steps "+c.what, l, f, c.want)
			isNot(t, "Steps "+c.what, has, f, c.want)
			flaws, f := ladder.Wrong(c.l, most)
			isNot(t, "Wrong "+c.what, flaws, f, c.want)
			for _, crowd := range [][]api.Viewer{nil, badCrowd} {
				n, f := ladder.Worth(c.l, crowd)
				isNot(t, "Worth "+c.what, n, f, c.want)
			}
			for _, crowd := range [][]api.Viewer{nil, badCrowd} {
				l, sum, f := ladder.Best(c.l, crowd, n)
				isNot(t, "Best "+c.what, choiceOf(l, sum), f, c.want)
				l, sum, f = ladder.Along(c.l, crowd, n)
				isNot(t, "Along "+c.what, choiceOf(l, sum), f, c.want)
			}
			l, sum, f := ladder.Common([][]api.Rung{example(), c.l}, nil, n)
			isNot(t, "Common "+c.what, choiceOf(l, sum), f, c.want)
		}
	}
}

func TestSensible(t *testing.T) {
	for what, c := range map[string]struct {
		l    []api.Rung
		want []int
	}{
		"none":                         {nil, nil},
		"one":                          {points(5, 0), []int{0}},
		"the example":                  {example(), []int{0, 1, 2, 3}},
		"dearer, and no better":        {points(1, 5, 2, 5), []int{0}},
		"dearer, and worse":            {points(1, 5, 2, 4), []int{0}},
		"as dear, and better":          {points(1, 5, 1, 6), []int{1}},
		"as dear, and worse":           {points(1, 6, 1, 5), []int{0}},
		"equal":                        {points(1, 5, 1, 5), []int{0, 1}},
		"equal, and one better":        {points(1, 5, 1, 5, 1, 6), []int{2}},
		"equal, and one cheaper":       {points(1, 5, 2, 5, 2, 5, 3, 6, 3, 6), []int{0, 3, 4}},
		"beaten by one that is beaten": {points(1, 5, 2, 4, 3, 4, 4, 3), []int{0}},
		"a height does not matter":     {rungs(1, 9, 5, 2, 1, 5), []int{0}},
		"below the hull":               {points(1, 0, 2, 1, 100, 100), []int{0, 1, 2}},
		"the greatest and the least":   {points(1, 0, api.MaxBits, api.MaxQuality), []int{0, 1}},
		"as many as there can be":      {many(api.MaxRenditions), below(api.MaxRenditions)},
	} {
		got, f := ladder.Sensible(c.l)
		is(t, "Sensible "+what, got, f, c.want)
	}
}

// beats says whether a rendition has at most the Rate and at least the Quality of another one, and one of both otherwise.
func beats(r, other api.Rung) bool {
	isOther := r.Rate < other.Rate || r.Quality > other.Quality
	return r.Rate <= other.Rate && r.Quality >= other.Quality && isOther
}

func TestManySensible(t *testing.T) {
	r := rand.New(rand.NewSource(1))
	for range 3000 {
		l := draw(r, 12)
		var want []int
		for i := range l {
			isBeaten := false
			for k := range l {
				isBeaten = isBeaten || k != i && beats(l[k], l[i])
			}
			if !isBeaten {
				want = append(want, i)
			}
		}
		got, f := ladder.Sensible(l)
		is(t, fmt.Sprint("Sensible ", l), got, f, want)
	}
}
