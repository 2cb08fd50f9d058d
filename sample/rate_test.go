package sample_test

import (
	"fmt"
	"math/rand"
	"testing"

	"headend/api"
	"headend/sample"
)

// threeSeconds is the document's example.
func threeSeconds() api.Parcel { return parcel(1, 1, 100, 1, 100, 1, 100) }

// heaviest returns a parcel with the greatest number of bytes, and the greatest scale.
func heaviest(step int) api.Parcel {
	return api.Parcel{Scale: api.MaxScale, Samples: repeated(api.MaxSamples, step, api.MaxSampleSize)}
}

func TestMean(t *testing.T) {
	for _, c := range []struct {
		p    api.Parcel
		want int
	}{
		{threeSeconds(), 100},
		{parcel(1, 3, 100), 34}, // rounded up
		{parcel(1, 3, 99), 33},
		{parcel(1, 3, 1), 1},
		{parcel(1, 3, 0), 0},
		{parcel(90000, 3000, 50, 3000, 70), 1800},
		{parcel(90000, 3003, 50, 3003, 70), 1799},
		{parcel(1000, 0, 10, 1000, 0, 0, 5), 15}, // Steps of 0
		{later(parcel(1000, 500, 10), -777), 20},
		{parcel(1, api.MaxStep, 1), 1},
		{heaviest(1), api.MaxSampleSize * api.MaxScale}, // 10^14 bytes per second
		{heaviest(api.MaxStep), api.MaxSampleSize},
	} {
		got, f := sample.Mean(c.p)
		is(t, fmt.Sprint("Mean ", short(c.p.Samples)), got, f, c.want)
	}
	for _, p := range []api.Parcel{{Scale: 1}, parcel(1, 0, 5), parcel(1, 0, 5, 0, 0), parcel(1, 0, 0)} {
		got, f := sample.Mean(p)
		isNot(t, fmt.Sprint("Mean ", p), got, f, api.ErrZero)
	}
}

func TestPeak(t *testing.T) {
	uneven := parcel(7, 2, 5, 3, 7, 1, 1, 0, 4, 5, 9, 1, 2) // at 0, 2, 5, 6, 6, 11
	for _, c := range []struct {
		p            api.Parcel
		window, want int
	}{
		{parcel(1), 5, 0},
		{parcel(1, 0, 0), 1, 0},
		{parcel(1, 5, 6), 1, 6},
		{parcel(1, 5, 6), api.MaxTicks, 6},
		{threeSeconds(), 1, 100},
		{threeSeconds(), 2, 200},
		{threeSeconds(), 3, 300},
		{threeSeconds(), 4, 300},
		{uneven, 1, 13}, // two at one time
		{uneven, 2, 14},
		{uneven, 4, 14},
		{uneven, 5, 21},
		{uneven, 6, 21},
		{uneven, 7, 26},
		{uneven, 11, 26},
		{uneven, 12, 28},
		{later(uneven, -100), 5, 21},
		{later(uneven, api.MaxTime-12), 12, 28},
		{parcel(1, 0, 5, 0, 5, 0, 5), 1, 15},
		{parcel(1, 1, 0, 0, 0), 1, 0},
		{heaviest(api.MaxStep), api.MaxStep, api.MaxSampleSize},
		{heaviest(api.MaxStep), api.MaxStep + 1, 2 * api.MaxSampleSize},
		{heaviest(api.MaxStep), api.MaxTicks, 1000 * api.MaxSampleSize},
		{heaviest(0), 1, api.MaxSamples * api.MaxSampleSize},
	} {
		got, f := sample.Peak(c.p, c.window)
		is(t, fmt.Sprint("Peak ", short(c.p.Samples), c.window), got, f, c.want)
	}
	for _, window := range []int{0, -1, api.MaxTicks + 1} {
		for _, p := range []api.Parcel{{Scale: 1}, threeSeconds()} {
			got, f := sample.Peak(p, window)
			isNot(t, fmt.Sprint("Peak ", window), got, f, api.ErrRange)
		}
	}
}

// Small spans, wherever they begin.
func TestManyPeaks(t *testing.T) {
	r := rand.New(rand.NewSource(9))
	for range 3000 {
		p := api.Parcel{Scale: 1 + r.Intn(5), Samples: draw(r, 10)}
		window := 1 + r.Intn(12)
		want := 0
		for from := -30; from < 100; from++ {
			bytes := 0
			for _, s := range p.Samples {
				if from <= s.Time && s.Time < from+window {
					bytes += s.Size
				}
			}
			want = max(want, bytes)
		}
		got, f := sample.Peak(p, window)
		is(t, fmt.Sprint("Peak ", p, window), got, f, want)
	}
}
