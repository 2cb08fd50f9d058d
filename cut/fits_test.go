package cut_test

import (
	"fmt"
	"math"
	"math/big"
	"math/rand"
	"slices"
	"testing"

	"headend/api"
	"headend/cut"
)

// house is a film in two scales, and its sound, cut at 0, 7 and 13 seconds.
func house(t *testing.T) ([]api.Strand, [][]api.Segment) {
	t.Helper()
	l := []api.Strand{film(), pictures("q", 3, line(20, 0, 3, 0, 7, 13)), tones()}
	all, f := cut.All(l, []int{0, 7, 13}, 5)
	if f != api.OK {
		t.Fatal("All", f)
	}
	return l, all
}

func TestFits(t *testing.T) {
	for what, c := range map[string]struct {
		change func(all [][]api.Segment)
		at     pair
		want   api.Fault
	}{
		"all":                     {func(all [][]api.Segment) {}, pair{}, api.OK},
		"Length does not matter":  {func(all [][]api.Segment) { all[0][1].Length = math.MinInt }, pair{}, api.OK},
		"none":                    {func(all [][]api.Segment) { clear(all) }, pair{}, api.ErrForm},
		"none of the second":      {func(all [][]api.Segment) { all[1] = nil }, pair{1, 0}, api.ErrForm},
		"fewer":                   {func(all [][]api.Segment) { all[2] = all[2][:2] }, pair{2, 0}, api.ErrForm},
		"more":                    {func(all [][]api.Segment) { all[1] = append(all[1], all[1][2]) }, pair{1, 0}, api.ErrForm},
		"more, and wrong":         {func(all [][]api.Segment) { all[1] = append(all[1], all[1][2]); all[1][0].From = 1 }, pair{1, 0}, api.ErrForm},
		"fewer of the first":      {func(all [][]api.Segment) { all[0] = all[0][:2] }, pair{0, 1}, api.ErrRange}, // To is not the end
		"From of the first":       {func(all [][]api.Segment) { all[0][0].From = 1 }, pair{0, 0}, api.ErrRange},
		"From below 0":            {func(all [][]api.Segment) { all[0][0].From = -1 }, pair{0, 0}, api.ErrRange},
		"From":                    {func(all [][]api.Segment) { all[1][1].From++ }, pair{1, 1}, api.ErrRange},
		"To":                      {func(all [][]api.Segment) { all[1][1].To = all[1][1].From }, pair{1, 1}, api.ErrRange},
		"To below From":           {func(all [][]api.Segment) { all[1][1].To = math.MinInt }, pair{1, 1}, api.ErrRange},
		"To beyond all":           {func(all [][]api.Segment) { all[2][1].To = 26 }, pair{2, 1}, api.ErrRange},
		"greatest To":             {func(all [][]api.Segment) { all[2][2].To = math.MaxInt }, pair{2, 2}, api.ErrRange},
		"range before the order":  {func(all [][]api.Segment) { all[1][1].From++; all[1][1].Number++ }, pair{1, 1}, api.ErrRange},
		"Number of the first":     {func(all [][]api.Segment) { all[0][1].Number++ }, pair{0, 1}, api.ErrOrder},
		"Number":                  {func(all [][]api.Segment) { all[1][2].Number-- }, pair{1, 2}, api.ErrOrder},
		"order before the type":   {func(all [][]api.Segment) { all[2][1].Number = 9 }, pair{2, 1}, api.ErrOrder},
		"another Number":          {func(all [][]api.Segment) { all[1][0].Number = 6 }, pair{1, 0}, api.ErrType},
		"other Numbers":           {func(all [][]api.Segment) { renumber(all[2], 7) }, pair{2, 0}, api.ErrType},
		"other Numbers of all":    {func(all [][]api.Segment) { renumberAll(all, math.MinInt) }, pair{}, api.OK},
		"the greatest Numbers":    {func(all [][]api.Segment) { renumberAll(all, math.MaxInt-2) }, pair{}, api.OK},
		"beyond the greatest":     {func(all [][]api.Segment) { renumberAll(all, math.MaxInt-1) }, pair{0, 2}, api.ErrOrder}, // the next one is not the least one
		"type before the moment":  {func(all [][]api.Segment) { all[1][0].Number = 6; all[1][0].Begin++ }, pair{1, 0}, api.ErrType},
		"later":                   {func(all [][]api.Segment) { all[1][1].Begin++ }, pair{1, 1}, api.ErrClash},
		"earlier":                 {func(all [][]api.Segment) { all[1][1].Begin-- }, pair{1, 1}, api.ErrClash},
		"later by Lead":           {func(all [][]api.Segment) { all[1][2].Lead = 1 }, pair{1, 2}, api.ErrClash},
		"earlier with Lead":       {func(all [][]api.Segment) { all[1][1].Begin--; all[1][1].Lead = 1 }, pair{}, api.OK},
		"the first one":           {func(all [][]api.Segment) { all[0][1].Begin++ }, pair{1, 1}, api.ErrClash}, // told of the second
		"all later":               {func(all [][]api.Segment) { all[0][1].Begin++; all[1][1].Begin += 3; all[2][1].Begin += 10 }, pair{}, api.OK},
		"sound a tick earlier":    {func(all [][]api.Segment) { all[2][1].Begin-- }, pair{2, 1}, api.ErrClash},
		"sound a tick later":      {func(all [][]api.Segment) { all[2][1].Begin++ }, pair{2, 1}, api.ErrClash},
		"sound with less Lead":    {func(all [][]api.Segment) { all[2][1].Begin++; all[2][1].Lead-- }, pair{}, api.OK},
		"sound without Lead":      {func(all [][]api.Segment) { all[2][1].Begin, all[2][1].Lead = 70, 0 }, pair{}, api.OK},
		"later without Lead":      {func(all [][]api.Segment) { all[2][1].Begin, all[2][1].Lead = 7000, 0 }, pair{}, api.OK},
		"earlier without Lead":    {func(all [][]api.Segment) { all[2][1].Begin, all[2][1].Lead = 69, 0 }, pair{2, 1}, api.ErrClash},
		"later with a Lead":       {func(all [][]api.Segment) { all[2][0].Begin, all[2][0].Lead = -4, 5 }, pair{2, 0}, api.ErrClash},
		"Lead below 0":            {func(all [][]api.Segment) { all[2][0].Begin, all[2][0].Lead = 5, -5 }, pair{}, api.OK},
		"later, Lead below 0":     {func(all [][]api.Segment) { all[2][0].Begin, all[2][0].Lead = 6, -5 }, pair{2, 0}, api.ErrClash},
		"moment before the bytes": {func(all [][]api.Segment) { all[1][1].Begin++; all[1][1].Bytes++ }, pair{1, 1}, api.ErrClash},
		"Bytes":                   {func(all [][]api.Segment) { all[0][1].Bytes++ }, pair{0, 1}, api.ErrForm},
		"Bytes of the last":       {func(all [][]api.Segment) { all[2][2].Bytes = 0 }, pair{2, 2}, api.ErrForm},
		"the end":                 {func(all [][]api.Segment) { all[1][2].To--; all[1][2].Bytes -= 8 }, pair{1, 2}, api.ErrRange},
		"bytes before the end":    {func(all [][]api.Segment) { all[1][2].To-- }, pair{1, 2}, api.ErrForm},
		"segment by segment":      {func(all [][]api.Segment) { all[0][0].Bytes = 0; all[0][1].From = 0 }, pair{0, 0}, api.ErrForm},
		"rendition by rendition":  {func(all [][]api.Segment) { all[0][2].Bytes = 0; all[1] = nil }, pair{0, 2}, api.ErrForm},
	} {
		l, all := house(t)
		c.change(all)
		i, k, f := cut.Fits(l, all)
		if f != c.want || (pair{i, k}) != c.at {
			t.Errorf("Fits %s: got %d, %d with fault %d, want %v with fault %d", what, i, k, f, c.at, c.want)
		}
	}
}

func renumber(l []api.Segment, first int) {
	for k := range l {
		l[k].Number = first + k
	}
}

func renumberAll(all [][]api.Segment, first int) {
	for _, l := range all {
		renumber(l, first)
	}
}

func TestFitsForms(t *testing.T) {
	l, all := house(t)
	for _, segments := range [][][]api.Segment{nil, all[:2], append(slices.Clone(all), all[2])} {
		i, k, f := cut.Fits(l, segments)
		isNot(t, fmt.Sprint("Fits ", len(segments)), pair{i, k}, f, api.ErrForm)
	}
	i, k, f := cut.Fits(l[:1], all[:1])
	is(t, "Fits of one", pair{i, k}, f, pair{})
}

// Begin and Lead may be any numbers; what they have together is meant exactly.
func TestFitsGreatest(t *testing.T) {
	strand := func(name string, scale int, isSound bool) api.Strand {
		return api.Strand{Name: name, Scale: scale, Sound: isSound, Samples: line(1, 0, 1)}
	}
	numbers := []int{math.MinInt, math.MinInt + 1, -4, -1, 0, 1, 3, math.MaxInt - 1, math.MaxInt}
	whole := func(s api.Segment, scale, more int) *big.Rat {
		sum := big.NewInt(int64(s.Begin))
		sum.Add(sum, big.NewInt(int64(s.Lead)))
		sum.Add(sum, big.NewInt(int64(more)))
		return new(big.Rat).SetFrac(sum, big.NewInt(int64(scale)))
	}
	for _, scales := range [][2]int{{1, 1}, {2, 1}, {1, 2}, {3, api.MaxScale}} {
		l := []api.Strand{strand("a", scales[0], false), strand("b", scales[1], false), strand("s", scales[1], true)}
		for _, begin := range numbers {
			for _, lead := range numbers {
				first := api.Segment{To: 1, Begin: begin, Lead: lead, Bytes: 1}
				at := whole(first, scales[0], 0)
				for _, begin := range numbers {
					for _, lead := range numbers {
						s := api.Segment{To: 1, Begin: begin, Lead: lead, Bytes: 1}
						own := whole(s, scales[1], 0)
						_, _, f := cut.Fits(l[:2], [][]api.Segment{{first}, {s}})
						if (f == api.OK) != (own.Cmp(at) == 0) || f != api.OK && f != api.ErrClash {
							t.Error("Fits", first, s, scales, f)
						}
						good := (own.Cmp(at) <= 0 || lead == 0) && whole(s, scales[1], 1).Cmp(at) > 0
						_, _, f = cut.Fits([]api.Strand{l[0], l[2]}, [][]api.Segment{{first}, {s}})
						if (f == api.OK) != good || f != api.OK && f != api.ErrClash {
							t.Error("Fits of sound", first, s, scales, f)
						}
					}
				}
			}
		}
	}
}

// What All returns fits; what is changed at one place does not, or is as good.
func TestManyFits(t *testing.T) {
	r := rand.New(rand.NewSource(7))
	faults := map[api.Fault]int{}
	for range 3000 {
		l, all := house(t)
		s := &all[r.Intn(3)][r.Intn(3)]
		field := []*int{&s.Number, &s.From, &s.To, &s.Begin, &s.Bytes, &s.Lead}[r.Intn(6)]
		was := *field
		*field += []int{-1, 1, math.MinInt, math.MaxInt, r.Intn(100)}[r.Intn(5)]
		_, _, f := cut.Fits(l, all)
		faults[f]++
		if f == api.OK && *field != was && field != &s.Lead && field != &s.Begin {
			t.Error("Fits", all)
		}
		*field = was
		i, k, f := cut.Fits(l, all)
		is(t, "Fits", pair{i, k}, f, pair{})
	}
	for _, fault := range []api.Fault{api.ErrForm, api.ErrRange, api.ErrOrder, api.ErrType, api.ErrClash} {
		if faults[fault] == 0 {
			t.Error("no fault", fault, faults)
		}
	}
}
