package sample

import (
	"iter"

	"headend/api"
	"headend/check"
	"headend/tick"
)

// Interleave returns the order in which samples of several tracks are written, as slices of at most so many ticks.
func Interleave(l []api.Parcel, most int) ([]api.Slice, api.Fault) {
	if len(l) > api.MaxTracks {
		return nil, api.ErrLarge
	}
	for _, p := range l {
		if fault := checkParcel(p); fault != api.OK {
			return nil, fault
		}
	}
	if !check.Within(most, 0, api.MaxTicks) {
		return nil, api.ErrRange
	}
	var written []api.Slice
	for track, i := range decoded(l) {
		if last := len(written) - 1; last >= 0 && goesOn(written[last], l, track, i, most) {
			written[last].N++
		} else {
			written = append(written, api.Slice{Track: track, From: i, N: 1})
		}
	}
	return written, api.OK
}

// goesOn says whether a sample belongs to the slice that was written before it.
func goesOn(s api.Slice, l []api.Parcel, track, i, most int) bool {
	samples := l[track].Samples
	return s.Track == track && samples[i].Time-samples[s.From].Time <= most
}

// decoded goes through the samples of all tracks, in the order of the moments at which they are decoded.
func decoded(l []api.Parcel) iter.Seq2[int, int] {
	return func(yield func(track, i int) bool) {
		next := make([]int, len(l))
		for {
			track := soonest(l, next)
			if track < 0 || !yield(track, next[track]) {
				return
			}
			next[track]++
		}
	}
}

// soonest returns the track whose next sample is decoded first, or -1, if none has one.
func soonest(l []api.Parcel, next []int) int {
	best := -1
	var least tick.Moment
	for track, p := range l {
		if next[track] == len(p.Samples) {
			continue
		}
		m := tick.MomentOf(p.Scale, p.Samples[next[track]].Time)
		if best < 0 || m.Compare(least) < 0 {
			best, least = track, m
		}
	}
	return best
}
