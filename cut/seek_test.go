package cut_test

import (
	"fmt"
	"math"
	"math/rand"
	"testing"

	"headend/api"
	"headend/cut"
)

// sized returns segments with so many bytes.
func sized(sizes ...int) []api.Segment {
	var l []api.Segment
	for _, n := range sizes {
		l = append(l, api.Segment{Bytes: n})
	}
	return l
}

func TestRanges(t *testing.T) {
	for _, c := range []struct {
		l     []api.Segment
		start int
		want  []api.Range
	}{
		{nil, 0, nil},
		{nil, api.MaxTime, nil},
		{sized(100, 50), 7, []api.Range{{From: 7, To: 107}, {From: 107, To: 157}}},
		{sized(5, 0, 1), 0, []api.Range{{From: 0, To: 5}, {From: 5, To: 5}, {From: 5, To: 6}}},
		{sized(api.MaxTime), 0, []api.Range{{From: 0, To: api.MaxTime}}},
		{sized(0, 1, 0), api.MaxTime - 1, []api.Range{{From: api.MaxTime - 1, To: api.MaxTime - 1}, {From: api.MaxTime - 1, To: api.MaxTime}, {From: api.MaxTime, To: api.MaxTime}}},
		{[]api.Segment{{Number: -1, From: 5, To: 4, Begin: math.MaxInt, Length: -1, Bytes: 3, Lead: math.MaxInt}}, 1, []api.Range{{From: 1, To: 4}}}, // just Bytes matters
	} {
		got, f := cut.Ranges(c.l, c.start)
		is(t, fmt.Sprint("Ranges ", c.l, c.start), got, f, c.want)
	}
	got, f := cut.Ranges(make([]api.Segment, api.MaxCuts), 3)
	is(t, "Ranges of most", len(got), f, api.MaxCuts)
}

// badRanges are segments, and starts, that Ranges and Fetch do not take.
var badRanges = []struct {
	what  string
	l     []api.Segment
	start int
	want  api.Fault
}{
	{"start below 0", nil, -1, api.ErrRange},
	{"start", make([]api.Segment, api.MaxCuts+1), api.MaxTime + 1, api.ErrRange},
	{"too many", make([]api.Segment, api.MaxCuts+1), 0, api.ErrLarge},
	{"too many bad", append(make([]api.Segment, api.MaxCuts), api.Segment{Bytes: -1}), 0, api.ErrLarge},
	{"Bytes below 0", sized(5, -1), 0, api.ErrRange},
	{"Bytes below 0, start", sized(-1), 5, api.ErrRange},
	{"Bytes", sized(api.MaxTime + 1), 0, api.ErrRange},
	{"end", sized(1), api.MaxTime, api.ErrRange},
	{"end of the second", sized(api.MaxTime, 1), 0, api.ErrRange},
	{"end, wrapped", sized(api.MaxTime, math.MaxInt), 5, api.ErrRange},
}

func TestRangesFaults(t *testing.T) {
	for _, c := range badRanges {
		got, f := cut.Ranges(c.l, c.start)
		isNot(t, "Ranges "+c.what, got, f, c.want)
	}
}

// gaps are segments from 10 to 16, from 16 to 20, from 30 to 35, none at 40, and from 40 to 50 and 45 to 47.
func gaps() []api.Segment {
	return []api.Segment{
		{Begin: 10, Length: 6, Bytes: 1}, {Begin: 13, Lead: 3, Length: 4, Bytes: 2}, {Begin: 32, Lead: -2, Length: 5, Bytes: 4},
		{Begin: 40, Length: 0, Bytes: 8}, {Begin: 40, Length: 10, Bytes: 16}, {Begin: 45, Length: 2, Bytes: 32},
	}
}

func TestSeek(t *testing.T) {
	for _, c := range []struct {
		l    []api.Segment
		time int
		want pair
	}{
		{gaps(), 10, pair{0, 0}},
		{gaps(), 15, pair{0, 5}},
		{gaps(), 16, pair{1, 0}}, // from the boundary on, not from Begin
		{gaps(), 19, pair{1, 3}},
		{gaps(), 30, pair{2, 0}},
		{gaps(), 34, pair{2, 4}},
		{gaps(), 40, pair{4, 0}}, // one without a length has no moment
		{gaps(), 44, pair{4, 4}},
		{gaps(), 45, pair{5, 0}}, // of several the last one
		{gaps(), 46, pair{5, 1}},
		{gaps(), 47, pair{4, 7}},
		{gaps(), 49, pair{4, 9}},
		{lasting(-api.MaxTime, api.MaxTime, api.MaxTime), -api.MaxTime, pair{0, 0}},
		{lasting(-api.MaxTime, api.MaxTime, api.MaxTime), -1, pair{0, api.MaxTime - 1}},
		{lasting(-api.MaxTime, api.MaxTime, api.MaxTime), api.MaxTime - 1, pair{1, api.MaxTime - 1}},
		{[]api.Segment{{Begin: -api.MaxTime, Lead: -api.MaxTime, Length: api.MaxTime}, {Begin: -api.MaxTime, Length: 1}}, -api.MaxTime, pair{1, 0}},
	} {
		i, ticks, f := cut.Seek(c.l, c.time)
		is(t, fmt.Sprint("Seek ", c.l, c.time), pair{i, ticks}, f, c.want)
	}
}

func TestSeekFaults(t *testing.T) {
	for _, c := range badTimes {
		for _, time := range []int{0, api.MaxTime + 1} { // the list comes before the time
			i, ticks, f := cut.Seek(c.l, time)
			isNot(t, "Seek "+c.what, pair{i, ticks}, f, c.want)
		}
	}
	for _, time := range []int{api.MaxTime + 1, -api.MaxTime - 1, math.MaxInt, math.MinInt} {
		for _, l := range [][]api.Segment{nil, gaps()} {
			i, ticks, f := cut.Seek(l, time)
			isNot(t, fmt.Sprint("Seek ", time), pair{i, ticks}, f, api.ErrRange)
		}
	}
	for _, time := range []int{-api.MaxTime, 9, 20, 29, 35, 39, 50, api.MaxTime} {
		i, ticks, f := cut.Seek(gaps(), time)
		isNot(t, fmt.Sprint("Seek ", time), pair{i, ticks}, f, api.ErrNone)
	}
	i, ticks, f := cut.Seek(nil, 0)
	isNot(t, "Seek in none", pair{i, ticks}, f, api.ErrNone)
	i, ticks, f = cut.Seek(lasting(api.MaxTime-1, 1), api.MaxTime) // not with the end
	isNot(t, "Seek the end", pair{i, ticks}, f, api.ErrNone)
}

func TestFetch(t *testing.T) {
	two := []api.Segment{{Number: 4, Begin: 10, Length: 6, Bytes: 100}, {Number: 5, Begin: 16, Length: 4, Bytes: 50}}
	for _, c := range []struct {
		l        []api.Segment
		from, to int
		start    int
		want     api.Range
	}{
		{two, 16, 30, 0, api.Range{From: 100, To: 150}},
		{two, 15, 30, 0, api.Range{From: 0, To: 150}},
		{two, 10, 16, 0, api.Range{From: 0, To: 100}},
		{two, 15, 16, 7, api.Range{From: 7, To: 107}},
		{two, 15, 17, 7, api.Range{From: 7, To: 157}},
		{two, -api.MaxTime, api.MaxTime, api.MaxTime - 150, api.Range{From: api.MaxTime - 150, To: api.MaxTime}},
		{two, 0, 11, 0, api.Range{From: 0, To: 100}},
		{two, 19, 20, 0, api.Range{From: 100, To: 150}},
		{gaps(), 12, 17, 1000, api.Range{From: 1000, To: 1003}},
		{gaps(), 14, 16, 1000, api.Range{From: 1000, To: 1001}}, // not by Begin
		{gaps(), 16, 31, 0, api.Range{From: 1, To: 7}},
		{gaps(), 18, 40, 0, api.Range{From: 1, To: 7}},
		{gaps(), 30, 41, 0, api.Range{From: 3, To: 31}}, // with what is in between
		{gaps(), 39, 41, 0, api.Range{From: 15, To: 31}},
		{gaps(), 44, 46, 0, api.Range{From: 15, To: 63}},
		{gaps(), 48, 60, 0, api.Range{From: 15, To: 31}}, // not with the last one
		{[]api.Segment{{Begin: 5, Length: 1}}, 5, 6, 9, api.Range{From: 9, To: 9}},
	} {
		got, f := cut.Fetch(c.l, api.Span{From: c.from, To: c.to}, c.start)
		is(t, fmt.Sprint("Fetch ", c), got, f, c.want)
	}
}

func TestFetchFaults(t *testing.T) {
	spans := []api.Span{{From: 0, To: 1}, {}, {From: 0, To: api.MaxTime + 1}}
	for _, p := range spans {
		for _, c := range badRanges {
			got, f := cut.Fetch(c.l, p, c.start)
			isNot(t, "Fetch "+c.what, got, f, c.want)
		}
		for _, c := range badTimes {
			got, f := cut.Fetch(c.l, p, 0)
			isNot(t, "Fetch "+c.what, got, f, c.want)
		}
	}
	// all Bytes come before all times
	got, f := cut.Fetch([]api.Segment{{Length: -1}, {Bytes: -1}}, spans[0], 0)
	isNot(t, "Fetch", got, f, api.ErrRange)
	for _, c := range []struct {
		from, to int
		want     api.Fault
	}{
		{-api.MaxTime - 1, 12, api.ErrRange},
		{12, api.MaxTime + 1, api.ErrRange},
		{api.MaxTime + 1, 12, api.ErrRange}, // the range comes before the order
		{math.MaxInt, math.MinInt, api.ErrRange},
		{12, 12, api.ErrOrder},
		{12, 11, api.ErrOrder},
		{api.MaxTime, -api.MaxTime, api.ErrOrder},
		{0, 10, api.ErrNone},
		{20, 30, api.ErrNone},
		{35, 40, api.ErrNone}, // the segment at 40 has no tick
		{50, api.MaxTime, api.ErrNone},
	} {
		got, f := cut.Fetch(gaps(), api.Span{From: c.from, To: c.to}, 0)
		isNot(t, fmt.Sprint("Fetch ", c.from, c.to), got, f, c.want)
	}
	got, f = cut.Fetch(nil, api.Span{From: 0, To: 1}, 0)
	isNot(t, "Fetch of none", got, f, api.ErrNone)
	got, f = cut.Fetch([]api.Segment{{Begin: 5}}, api.Span{From: 0, To: 10}, 0)
	isNot(t, "Fetch of one without a tick", got, f, api.ErrNone)
}

// Small lists, tick by tick.
func TestManySeeks(t *testing.T) {
	r := rand.New(rand.NewSource(10))
	for range 3000 {
		var l []api.Segment
		bound := r.Intn(6) - 3
		for range r.Intn(6) {
			lead := r.Intn(7) - 3
			l = append(l, api.Segment{Begin: bound - lead, Lead: lead, Length: r.Intn(6), Bytes: r.Intn(9)})
			bound += r.Intn(6)
		}
		has := func(i, tick int) bool {
			n := l[i].Begin + l[i].Lead
			return n <= tick && tick < n+l[i].Length
		}
		span := api.Span{From: r.Intn(25) - 5}
		span.To = span.From + 1 + r.Intn(8)
		seek, fetch := api.ErrNone, api.ErrNone
		var at pair
		var bytes api.Range
		place := 70
		for i, s := range l {
			if has(i, span.From) {
				seek, at = api.OK, pair{i, span.From - s.Begin - s.Lead}
			}
			for tick := span.From; tick < span.To; tick++ {
				if has(i, tick) {
					if fetch != api.OK {
						fetch, bytes.From = api.OK, place
					}
					bytes.To = place + s.Bytes
				}
			}
			place += s.Bytes
		}
		i, ticks, f := cut.Seek(l, span.From)
		isEither(t, fmt.Sprint("Seek ", l, span.From), pair{i, ticks}, f, at, seek)
		got, f := cut.Fetch(l, span, 70)
		isEither(t, fmt.Sprint("Fetch ", l, span), got, f, bytes, fetch)
	}
}
