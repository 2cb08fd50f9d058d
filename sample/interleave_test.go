package sample_test

import (
	"fmt"
	"math/big"
	"math/rand"
	"slices"
	"testing"

	"headend/api"
	"headend/sample"
)

// written returns slices of Track, From and N.
func written(numbers ...int) (l []api.Slice) {
	for i := 0; i+2 < len(numbers); i += 3 {
		l = append(l, api.Slice{Track: numbers[i], From: numbers[i+1], N: numbers[i+2]})
	}
	return l
}

func TestInterleave(t *testing.T) {
	for _, c := range []struct {
		l    []api.Parcel
		most int
		want []api.Slice
	}{
		{nil, 0, nil},
		{[]api.Parcel{parcel(1), parcel(2)}, 5, nil},
		{[]api.Parcel{parcel(1), parcel(2, 5, 0)}, 5, written(1, 0, 1)},
		// one track: slices of at most so many ticks
		{[]api.Parcel{parcel(7, 2, 0, 2, 0, 2, 0, 2, 0, 2, 0)}, 100, written(0, 0, 5)},
		{[]api.Parcel{parcel(7, 2, 0, 2, 0, 2, 0, 2, 0, 2, 0)}, 4, written(0, 0, 3, 0, 3, 2)}, // 4 ticks are not too many
		{[]api.Parcel{parcel(7, 2, 0, 2, 0, 2, 0, 2, 0, 2, 0)}, 3, written(0, 0, 2, 0, 2, 2, 0, 4, 1)},
		{[]api.Parcel{parcel(7, 2, 0, 2, 0, 2, 0)}, 0, written(0, 0, 1, 0, 1, 1, 0, 2, 1)},
		{[]api.Parcel{parcel(7, 0, 0, 0, 0, 2, 0, 0, 0)}, 0, written(0, 0, 3, 0, 3, 1)}, // Steps of 0
		{[]api.Parcel{parcel(1, 0, 0)}, api.MaxTicks, written(0, 0, 1)},
		// of several the first track
		{[]api.Parcel{parcel(2, 2, 0, 2, 0), parcel(1, 1, 0, 1, 0)}, 100, written(0, 0, 1, 1, 0, 1, 0, 1, 1, 1, 1, 1)},
		{[]api.Parcel{parcel(1, 0, 0, 0, 0), parcel(1, 0, 0, 0, 0)}, 0, written(0, 0, 2, 1, 0, 2)},
		{[]api.Parcel{parcel(3, 1, 0, 5, 0), parcel(3, 4, 0, 1, 0), parcel(3, 0, 0)}, 9, written(0, 0, 1, 1, 0, 1, 2, 0, 1, 0, 1, 1, 1, 1, 1)},
		// what follows of one track is one slice, where another track comes in between it is another one
		{[]api.Parcel{parcel(10, 1, 0, 1, 0, 1, 0, 1, 0), parcel(1000, 150, 0, 150, 0)}, 100, written(0, 0, 1, 1, 0, 1, 0, 1, 1, 1, 1, 1, 0, 2, 2)},
		// not the time of presentation, not the size
		{[]api.Parcel{{Scale: 1, Samples: timed(0, 1, 50, 1, 0)}, {Scale: 1, Samples: timed(0, 1, 0, 1, 60)}}, 0, written(0, 0, 1, 1, 0, 1, 0, 1, 1, 1, 1, 1)},
		// below 0: -1/2 is before -1/3, which is before 0
		{[]api.Parcel{later(parcel(1, 1, 0), 0), later(parcel(3, 1, 0), -1), later(parcel(2, 1, 0), -1)}, 0, written(2, 0, 1, 1, 0, 1, 0, 0, 1)},
		{[]api.Parcel{later(parcel(2, 1, 0), -3), later(parcel(1, 1, 0), -1), later(parcel(1, 1, 0), -2)}, 0, written(2, 0, 1, 0, 0, 1, 1, 0, 1)},
		// exactly: 999999999/1000000000 is after 999999998/999999999
		{[]api.Parcel{later(parcel(1000000000, 1, 0), 999999999), later(parcel(999999999, 1, 0), 999999998)}, 0, written(1, 0, 1, 0, 0, 1)},
		{[]api.Parcel{later(parcel(999999999, 0, 0), api.MaxTime-1), later(parcel(999999999, 0, 0), api.MaxTime-2)}, 0, written(1, 0, 1, 0, 0, 1)},
		{[]api.Parcel{later(parcel(999999999, 0, 0), 1-api.MaxTime), later(parcel(1, 0, 0), -api.MaxTime)}, 0, written(1, 0, 1, 0, 0, 1)},
		{[]api.Parcel{later(parcel(1, 0, 0), api.MaxTime), later(parcel(api.MaxScale, 0, 0), api.MaxTime)}, 0, written(1, 0, 1, 0, 0, 1)},
		{slices.Repeat([]api.Parcel{parcel(5, 0, 0)}, 8), 0, written(0, 0, 1, 1, 0, 1, 2, 0, 1, 3, 0, 1, 4, 0, 1, 5, 0, 1, 6, 0, 1, 7, 0, 1)},
	} {
		got, f := sample.Interleave(c.l, c.most)
		is(t, fmt.Sprint("Interleave ", c.l, c.most), got, f, c.want)
	}
}

func TestInterleaveFaults(t *testing.T) {
	many := slices.Repeat([]api.Parcel{parcel(1)}, api.MaxTracks+1)
	for _, c := range []struct {
		l    []api.Parcel
		most int
		want api.Fault
	}{
		{many, 0, api.ErrLarge},
		{many, -1, api.ErrLarge},
		{append([]api.Parcel{{Scale: 0, Samples: badSamples[1].l}}, many...), -1, api.ErrLarge}, // before all others
		{nil, -1, api.ErrRange},
		{nil, api.MaxTicks + 1, api.ErrRange},
		{many[:1], -1, api.ErrRange},
		{many[:1], api.MaxTicks + 1, api.ErrRange},
		{[]api.Parcel{parcel(1), {Scale: 1, Samples: []api.Sample{{Step: 1}, {Time: 2}}}}, -1, api.ErrOrder},
		{[]api.Parcel{parcel(0), {Scale: 1, Samples: []api.Sample{{Step: 1}, {Time: 2}}}}, -1, api.ErrRange}, // parcel by parcel
	} {
		got, f := sample.Interleave(c.l, c.most)
		isNot(t, fmt.Sprint("Interleave ", len(c.l), c.most), got, f, c.want)
	}
}

// Tracks near to one another, with exact fractions.
func TestManyInterleaved(t *testing.T) {
	r := rand.New(rand.NewSource(8))
	for range 2000 {
		l := make([]api.Parcel, r.Intn(5))
		for i := range l {
			l[i] = api.Parcel{Scale: 1 + r.Intn(6), Samples: draw(r, 8)}
		}
		most := r.Intn(8)
		type next struct{ track, i int }
		var all []next
		for track, p := range l {
			for i := range p.Samples {
				all = append(all, next{track, i})
			}
		}
		moment := func(n next) *big.Rat {
			return big.NewRat(int64(l[n.track].Samples[n.i].Time), int64(l[n.track].Scale))
		}
		slices.SortStableFunc(all, func(a, b next) int { return moment(a).Cmp(moment(b)) })
		var want []api.Slice
		for k, n := range all {
			first := len(want) == 0 || all[k-1].track != n.track
			if !first {
				begin := want[len(want)-1].From
				first = l[n.track].Samples[n.i].Time-l[n.track].Samples[begin].Time > most
			}
			if first {
				want = append(want, api.Slice{Track: n.track, From: n.i})
			}
			want[len(want)-1].N++
		}
		got, f := sample.Interleave(l, most)
		is(t, fmt.Sprint("Interleave ", l, most), got, f, want)
	}
}

func TestMostInterleaved(t *testing.T) {
	l := slices.Repeat([]api.Parcel{{Scale: api.MaxScale, Samples: repeated(api.MaxSamples, api.MaxStep, 0)}}, api.MaxTracks)
	got, f := sample.Interleave(l, api.MaxTicks)
	if f != api.OK || len(got) != api.MaxTracks*api.MaxSamples || got[len(got)-1] != (api.Slice{Track: api.MaxTracks - 1, From: api.MaxSamples - 1, N: 1}) {
		t.Error("Interleave", len(got), f)
	}
}
