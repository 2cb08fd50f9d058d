package cut_test

import (
	"fmt"
	"math"
	"math/big"
	"math/rand"
	"slices"
	"testing"

	"headend/api"
	"headend/cut"
)

// lasting returns segments that follow one another from a time on, with these lengths.
func lasting(from int, lengths ...int) []api.Segment {
	var l []api.Segment
	for i, n := range lengths {
		l = append(l, api.Segment{Number: 8 + i, From: i, To: i + 1, Begin: from, Length: n, Bytes: 1 << (i % 20)})
		from += n
	}
	return l
}

// badTimes are segments that Millis, Seek and Fetch do not take.
var badTimes = []struct {
	what string
	l    []api.Segment
	want api.Fault
}{
	{"too many", make([]api.Segment, api.MaxCuts+1), api.ErrLarge},
	{"too many bad", append(make([]api.Segment, api.MaxCuts), api.Segment{Begin: math.MinInt}), api.ErrLarge},
	{"Begin", []api.Segment{{Begin: api.MaxTime + 1, Lead: -5}}, api.ErrRange},
	{"Begin below 0", []api.Segment{{Begin: -api.MaxTime - 1, Length: 5}}, api.ErrRange},
	{"Lead", []api.Segment{{Begin: -api.MaxTime, Lead: api.MaxTime + 1}}, api.ErrRange},
	{"Lead below 0", []api.Segment{{Begin: api.MaxTime, Lead: -api.MaxTime - 1}}, api.ErrRange},
	{"Length", []api.Segment{{Begin: -api.MaxTime, Length: api.MaxTime + 1}}, api.ErrRange},
	{"Length no time, below 0", []api.Segment{{Begin: api.MaxTime, Length: -api.MaxTime - 1}}, api.ErrRange}, // before the order
	{"the greatest of all", []api.Segment{{Begin: math.MaxInt, Lead: math.MaxInt, Length: math.MaxInt}}, api.ErrRange},
	{"sum", []api.Segment{{Begin: api.MaxTime - 5, Lead: 3, Length: 3}}, api.ErrRange},
	{"sum below 0", []api.Segment{{Begin: -api.MaxTime, Lead: -3, Length: 2}}, api.ErrRange},
	{"sum, and Length", []api.Segment{{Begin: -api.MaxTime, Length: -1}}, api.ErrRange},
	{"the second", []api.Segment{{}, {Begin: api.MaxTime + 1}}, api.ErrRange},
	{"Length below 0", []api.Segment{{Begin: 5, Length: -1}}, api.ErrOrder},
	{"Length below 0, and then no time", []api.Segment{{Begin: 5, Length: -1}, {Begin: api.MaxTime + 1}}, api.ErrOrder},
	{"no order", []api.Segment{{Begin: 5, Length: 1}, {Begin: 4, Length: 1}}, api.ErrOrder},
	{"no order by Lead", []api.Segment{{Begin: 5, Lead: 3, Length: 1}, {Begin: 7, Length: 1}}, api.ErrOrder},
	{"no order, and no time", []api.Segment{{Begin: 5}, {Begin: 4, Length: api.MaxTime + 1}}, api.ErrRange},
}

func TestMillis(t *testing.T) {
	for what, c := range map[string]struct {
		l     []api.Segment
		scale int
		want  []int
	}{
		"none":                       {nil, 1, nil},
		"thirds":                     {lasting(0, 1, 1, 1), 3, []int{333, 334, 333}},
		"one":                        {lasting(7, 3), 2, []int{1500}},
		"no length":                  {lasting(7, 0), 2, []int{0}},
		"thirds from a third on":     {lasting(1, 1, 1, 1), 3, []int{334, 333, 333}},
		"thirds below 0":             {lasting(-2, 1, 1, 1), 3, []int{334, 333, 333}},
		"halves away from 0":         {lasting(-3, 1, 1, 1, 1, 1, 1), 2000, []int{1, 0, 1, 1, 0, 1}}, // -2, -1, -1, 0, 1, 1, 2
		"Begin plus Lead":            {[]api.Segment{{Begin: -5, Lead: 5, Length: 10}, {Begin: 8, Lead: 2, Length: 4}}, 10, []int{1000, 400}},
		"to the next one":            {[]api.Segment{{Length: 1}, {Begin: 50, Length: 7}}, 10, []int{5000, 700}}, // Length matters just of the last one
		"two at one time":            {[]api.Segment{{Length: 5}, {Length: 5}}, 10, []int{0, 500}},
		"a drift that does not grow": {lasting(0, 6006, 6006, 6006, 6006), 90000, []int{67, 66, 67, 67}}, // 66.73, 133.47, 200.2, 266.93
		"the greatest":               {lasting(-api.MaxTime, api.MaxTime, api.MaxTime), 1, []int{1000 * api.MaxTime, 1000 * api.MaxTime}},
		"the greatest scale":         {lasting(api.MaxTime-api.MaxScale, api.MaxScale), api.MaxScale, []int{1000}},
		"the least boundary":         {[]api.Segment{{Begin: -api.MaxTime, Lead: -api.MaxTime, Length: api.MaxTime}}, 1, []int{1000 * api.MaxTime}},
		"a boundary that is no time": {[]api.Segment{{Begin: -api.MaxTime, Lead: -api.MaxTime, Length: api.MaxTime}, {Begin: api.MaxTime}}, 1, []int{3000 * api.MaxTime, 0}},
	} {
		got, f := cut.Millis(c.l, c.scale)
		is(t, "Millis "+what, got, f, c.want)
	}
}

func TestMillisFaults(t *testing.T) {
	for _, scale := range []int{0, -1, api.MaxScale + 1, math.MinInt, math.MaxInt} {
		for _, l := range [][]api.Segment{nil, lasting(0, 1), badTimes[0].l} {
			got, f := cut.Millis(l, scale)
			isNot(t, fmt.Sprint("Millis ", scale), got, f, api.ErrRange)
		}
	}
	for _, c := range badTimes {
		got, f := cut.Millis(c.l, 1)
		isNot(t, "Millis "+c.what, got, f, c.want)
	}
}

// As many segments as there can be.
func TestMostTimes(t *testing.T) {
	l := lasting(0, slices.Repeat([]int{3}, api.MaxCuts)...)
	millis, f := cut.Millis(l, 1)
	is(t, "Millis", millis, f, slices.Repeat([]int{3000}, api.MaxCuts))
	i, ticks, f := cut.Seek(l, 3*api.MaxCuts-1)
	is(t, "Seek", pair{i, ticks}, f, pair{api.MaxCuts - 1, 2})
	last := l[api.MaxCuts-1]
	bytes, f := cut.Fetch(l, api.Span{From: last.Begin, To: last.Begin + 1}, 0)
	is(t, "Fetch", bytes.To-bytes.From, f, last.Bytes)
}

// nearest returns ticks in milliseconds, rounded once, with numbers of any length.
func nearest(ticks, scale int) int {
	x := new(big.Rat).Mul(big.NewRat(int64(ticks), int64(scale)), big.NewRat(1000, 1))
	half := big.NewRat(1, 2)
	if x.Sign() < 0 {
		half.Neg(half)
	}
	x.Add(x, half)
	n := new(big.Int).Quo(x.Num(), x.Denom())
	return int(n.Int64())
}

// The lengths together are the whole length, rounded at both ends.
func TestManyMillis(t *testing.T) {
	r := rand.New(rand.NewSource(8))
	for range 3000 {
		scale := 1 + r.Intn(5000)
		if r.Intn(3) == 0 {
			scale = 1 + r.Intn(api.MaxScale)
		}
		most := []int{10, scale, 10 * scale, api.MaxTime / 20}[r.Intn(4)]
		var lengths []int
		for range 1 + r.Intn(10) {
			lengths = append(lengths, r.Intn(most))
		}
		l := lasting(r.Intn(most)-most/2, lengths...)
		var want []int
		for _, s := range l {
			want = append(want, nearest(s.Begin+s.Length, scale)-nearest(s.Begin, scale))
		}
		for i := range l { // where the first sample is does not matter
			lead := r.Intn(3)
			l[i].Begin, l[i].Lead = l[i].Begin-lead, lead
		}
		got, f := cut.Millis(l, scale)
		is(t, fmt.Sprint("Millis ", l, scale), got, f, want)
	}
}

func TestPieces(t *testing.T) {
	uneven := pictures("p", 1, keyed(timed(0, 3, 0, 0, 0, 2, 0, 9, 0, 0, 0, 1, 0, 4, 0, 0, 0), 0, 3, 6))
	for what, c := range map[string]struct {
		r        api.Strand
		from, to int
		target   int
		want     []api.Piece
	}{
		"three":             {film(), 0, 5, 2, []api.Piece{{From: 0, To: 2, Length: 2, Free: true}, {From: 2, To: 4, Length: 2}, {From: 4, To: 5, Length: 1}}},
		"from the middle":   {film(), 6, 9, 1, []api.Piece{{From: 6, To: 7, Length: 1}, {From: 7, To: 8, Length: 1, Free: true}, {From: 8, To: 9, Length: 1}}},
		"a Key within":      {film(), 6, 9, 3, []api.Piece{{From: 6, To: 9, Length: 3}}},
		"all":               {film(), 0, 20, 20, []api.Piece{{From: 0, To: 20, Length: 20, Free: true}}},
		"all but one":       {film(), 0, 20, 19, []api.Piece{{From: 0, To: 19, Length: 19, Free: true}, {From: 19, To: 20, Length: 1}}},
		"the greatest":      {film(), 0, 20, 1000000000, []api.Piece{{From: 0, To: 20, Length: 20, Free: true}}},
		"a sample":          {film(), 19, 20, 1, []api.Piece{{From: 19, To: 20, Length: 1}}},
		"too long a sample": {tones(), 0, 2, 7, []api.Piece{{From: 0, To: 1, Length: 8}, {From: 1, To: 2, Length: 8}}},
		// Steps 3, 0, 2, 9, 0, 1, 4, 0: what has no ticks goes with what is before it, but not with what is too long
		"uneven":          {uneven, 0, 8, 5, []api.Piece{{From: 0, To: 3, Length: 5, Free: true}, {From: 3, To: 4, Length: 9, Free: true}, {From: 4, To: 8, Length: 5}}},
		"uneven, shorter": {uneven, 0, 8, 4, []api.Piece{{From: 0, To: 2, Length: 3, Free: true}, {From: 2, To: 3, Length: 2}, {From: 3, To: 4, Length: 9, Free: true}, {From: 4, To: 6, Length: 1}, {From: 6, To: 8, Length: 4, Free: true}}},
		"uneven, longer":  {uneven, 0, 8, 14, []api.Piece{{From: 0, To: 5, Length: 14, Free: true}, {From: 5, To: 8, Length: 5}}},
		"the longest": {
			pictures("p", 1, line(3, 0, api.MaxStep)), 0, 3, 1000000000,
			[]api.Piece{{From: 0, To: 1, Length: api.MaxStep}, {From: 1, To: 2, Length: api.MaxStep}, {From: 2, To: 3, Length: api.MaxStep}},
		},
	} {
		// all else of the segment does not matter
		got, f := cut.Pieces(c.r, api.Segment{Number: -3, From: c.from, To: c.to, Begin: math.MinInt, Length: -1, Bytes: -1, Lead: -1}, c.target)
		is(t, "Pieces "+what, got, f, c.want)
	}
}

func TestPiecesFaults(t *testing.T) {
	for _, c := range []struct{ from, to, target int }{
		{-1, 5, 1},
		{0, 0, 1},
		{20, 20, 1},
		{5, 4, 1},
		{0, 21, 1},
		{19, math.MaxInt, 1},
		{math.MinInt, 1, 1},
		{20, 21, 1},
		{0, 5, 0},
		{0, 5, -1},
		{0, 5, 1000000001},
		{0, 5, math.MaxInt},
	} {
		got, f := cut.Pieces(film(), api.Segment{From: c.from, To: c.to}, c.target)
		isNot(t, fmt.Sprint("Pieces ", c), got, f, api.ErrRange)
	}
}

func TestMerged(t *testing.T) {
	three := lasting(0, 1, 1, 1)
	three[1].Begin, three[1].Lead = -4, 5
	three[2].Begin, three[2].Lead = -3, 5
	for what, c := range map[string]struct {
		l    []api.Segment
		n    int
		want []api.Segment
	}{
		"none":      {nil, 1, nil},
		"none of n": {nil, api.MaxCuts, nil},
		"by one":    {three, 1, three},
		"by two": {three, 2, []api.Segment{
			{Number: 4, From: 0, To: 2, Begin: 0, Length: 2, Bytes: 3},
			{Number: 5, From: 2, To: 3, Begin: -3, Length: 1, Bytes: 4, Lead: 5},
		}},
		"just as many":    {three[:2], 2, []api.Segment{{Number: 4, From: 0, To: 2, Length: 2, Bytes: 3}}},
		"fewer than n":    {three, 4, []api.Segment{{Number: 2, From: 0, To: 3, Length: 3, Bytes: 7}}},
		"Number 0":        {lastingFrom(0, 5, 6, 7), 2, []api.Segment{{Number: 0, To: 2, Length: 11, Bytes: 3}, {Number: 1, From: 2, To: 3, Begin: 11, Length: 7, Bytes: 4}}},
		"Number below 0":  {lastingFrom(-4, 5, 6, 7), 2, []api.Segment{{Number: -2, To: 2, Length: 11, Bytes: 3}, {Number: -1, From: 2, To: 3, Begin: 11, Length: 7, Bytes: 4}}},
		"up to Number 0":  {lastingFrom(-1, 5, 6), 1, lastingFrom(-1, 5, 6)},
		"the least":       {lastingFrom(math.MinInt, 5, 6), 2, []api.Segment{{Number: math.MinInt / 2, To: 2, Length: 11, Bytes: 3}}},
		"the greatest":    {lastingFrom(math.MaxInt-1, 5, 6), 1, lastingFrom(math.MaxInt-1, 5, 6)},
		"greatest Length": {lastingFrom(8, api.MaxTime-1, 1, 1), 2, []api.Segment{{Number: 4, To: 2, Length: api.MaxTime, Bytes: 3}, {Number: 5, From: 2, To: 3, Begin: api.MaxTime, Length: 1, Bytes: 4}}},
		"greatest of one": {changed(lastingFrom(8, api.MaxTime), 0, func(s *api.Segment) { s.Bytes = api.MaxTime }), 4, []api.Segment{{Number: 2, To: 1, Length: api.MaxTime, Bytes: api.MaxTime}}},
		"greatest Bytes":  {changed(lastingFrom(8, 1, 1), 1, func(s *api.Segment) { s.Bytes = api.MaxTime - 1 }), 2, []api.Segment{{Number: 4, To: 2, Length: 2, Bytes: api.MaxTime}}},
		"any From and To": {[]api.Segment{{From: math.MaxInt, To: math.MinInt}, {Number: 1, From: math.MinInt, To: -7}}, 2, []api.Segment{{From: math.MaxInt, To: -7}}},
	} {
		got, f := cut.Merged(c.l, c.n)
		is(t, "Merged "+what, got, f, c.want)
	}
	most := lastingFrom(api.MaxCuts, slices.Repeat([]int{2}, api.MaxCuts)...)
	got, f := cut.Merged(most, api.MaxCuts)
	is(t, "Merged all", len(got), f, 1)
	is(t, "Merged all", got[0].Length, f, 2*api.MaxCuts)
	got, f = cut.Merged(most, 1)
	is(t, "Merged all by one", got, f, most)
}

// lastingFrom returns segments with these lengths from a number on.
func lastingFrom(number int, lengths ...int) []api.Segment {
	l := lasting(0, lengths...)
	renumber(l, number)
	return l
}

// changed returns segments of which one is changed.
func changed(l []api.Segment, i int, change func(s *api.Segment)) []api.Segment {
	l = slices.Clone(l)
	change(&l[i])
	return l
}

func TestMergedFaults(t *testing.T) {
	l := lasting(0, 1, 1, 1)
	for what, c := range map[string]struct {
		l    []api.Segment
		n    int
		want api.Fault
	}{
		"n is 0":                  {nil, 0, api.ErrRange},
		"n below 0":               {l, -1, api.ErrRange},
		"n":                       {make([]api.Segment, api.MaxCuts+1), api.MaxCuts + 1, api.ErrRange},
		"too many":                {make([]api.Segment, api.MaxCuts+1), 1, api.ErrLarge},
		"From":                    {changed(l, 1, func(s *api.Segment) { s.From++; s.Number++ }), 3, api.ErrForm},
		"Number":                  {changed(l, 1, func(s *api.Segment) { s.Number++ }), 3, api.ErrOrder},
		"Number of the last":      {changed(l, 2, func(s *api.Segment) { s.Number-- }), 3, api.ErrOrder},
		"segment by segment":      {changed(changed(l, 1, func(s *api.Segment) { s.Number-- }), 2, func(s *api.Segment) { s.From-- }), 3, api.ErrOrder},
		"no number more":          {lastingFrom(math.MaxInt, 1, 1), 1, api.ErrOrder},
		"3 of 8":                  {l, 3, api.ErrState},
		"the state before a sum":  {changed(l, 2, func(s *api.Segment) { s.Length = -1 }), 3, api.ErrState},
		"the order before a sum":  {changed(l, 2, func(s *api.Segment) { s.Number = 0; s.Length = -1 }), 2, api.ErrOrder},
		"2 of -3":                 {lastingFrom(-3, 1), 2, api.ErrState},
		"Length below 0":          {changed(l, 2, func(s *api.Segment) { s.Length = -1 }), 2, api.ErrRange},
		"Length below 0, no sum":  {changed(l, 1, func(s *api.Segment) { s.Length = -1 }), 2, api.ErrRange},
		"Length":                  {changed(l, 2, func(s *api.Segment) { s.Length = api.MaxTime + 1 }), 2, api.ErrRange},
		"Bytes below 0":           {changed(l, 1, func(s *api.Segment) { s.Bytes = -1 }), 2, api.ErrRange},
		"Bytes":                   {changed(l, 0, func(s *api.Segment) { s.Bytes = api.MaxTime + 1 }), 1, api.ErrRange},
		"sum of Lengths":          {changed(l, 1, func(s *api.Segment) { s.Length = api.MaxTime }), 2, api.ErrRange},
		"sum of Bytes":            {changed(l, 0, func(s *api.Segment) { s.Bytes = api.MaxTime - 1 }), 2, api.ErrRange},
		"sum of Bytes, wrapped":   {changed(changed(l, 0, func(s *api.Segment) { s.Bytes = math.MaxInt }), 1, func(s *api.Segment) { s.Bytes = math.MaxInt }), 2, api.ErrRange},
		"the second sum of Bytes": {changed(lasting(0, 1, 1, 1, 1), 3, func(s *api.Segment) { s.Bytes = api.MaxTime - 3 }), 2, api.ErrRange},
	} {
		got, f := cut.Merged(c.l, c.n)
		isNot(t, "Merged "+what, got, f, c.want)
	}
}

// Segments that are put together fit, as those do that they are made of.
func TestMergedFits(t *testing.T) {
	l, all := house(t)
	renumberAll(all, 6)
	for i := range all {
		merged, f := cut.Merged(all[i], 2)
		if f != api.OK || len(merged) != 2 || merged[0].Number != 3 {
			t.Error("Merged", merged, f)
		}
		isWholeRendition(t, l[i], merged)
		all[i] = merged
	}
	i, k, f := cut.Fits(l, all)
	is(t, "Fits of Merged", pair{i, k}, f, pair{})
	whole, f := cut.All(l, []int{0, 13}, 3)
	is(t, "Merged", all, f, whole)
}
