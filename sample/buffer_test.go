package sample_test

import (
	"fmt"
	"math/big"
	"math/rand"
	"slices"
	"testing"

	"headend/api"
	"headend/sample"
)

func TestDelay(t *testing.T) {
	for _, c := range []struct {
		p          api.Parcel
		rate, want int
	}{
		{parcel(1), 1, 0},
		{parcel(1, 5, 0), 1, 0},
		{threeSeconds(), 50, 4},
		{threeSeconds(), 49, 5}, // 300 bytes need 6.1 seconds: rounded up
		{threeSeconds(), 51, 4},
		{threeSeconds(), 60, 3},
		{threeSeconds(), 75, 2},
		{threeSeconds(), 100, 1},
		{threeSeconds(), 99, 2},
		{threeSeconds(), api.MaxRate, 1}, // bytes at moment 0 never have arrived
		{parcel(90000, 3000, 100), 100, 90000},
		{parcel(90000, 3000, 1), 90000, 1},
		{parcel(90000, 3000, 1), 90001, 1},
		{parcel(1, 3, 0, 1, 300), 100, 0}, // just in time
		{parcel(1, 3, 0, 1, 301), 100, 1},
		{parcel(1, 9, 0, 1, 300), 100, 0},
		{parcel(1, 3, 100, 1, 0), 100, 1}, // the first one, not the last one
		{parcel(1, 0, 100, 0, 100, 0, 100), 100, 3},
		{later(threeSeconds(), 5), 50, 4}, // less the time of the first sample
		{later(threeSeconds(), -api.MaxTime), 50, 4},
		{later(threeSeconds(), api.MaxTime-3), 50, 4},
		{parcel(api.MaxScale, 0, 1000), 1, api.MaxTicks},
		{heaviest(api.MaxStep), api.MaxSampleSize, api.MaxScale},
		{heaviest(0), 500000, api.MaxTicks},
	} {
		got, f := sample.Delay(c.p, c.rate)
		is(t, fmt.Sprint("Delay ", short(c.p.Samples), c.rate), got, f, c.want)
	}
}

func TestDelayFaults(t *testing.T) {
	for _, c := range []struct {
		p    api.Parcel
		rate int
	}{
		{threeSeconds(), 0},
		{threeSeconds(), -1},
		{threeSeconds(), api.MaxRate + 1},
		{parcel(1), 0},
		{parcel(api.MaxScale, 0, 1001), 1}, // the result is too great
		{parcel(99990001, 0, 10001), 1},    // by 1
		{heaviest(0), 499999},
		{heaviest(0), 1},
	} {
		got, f := sample.Delay(c.p, c.rate)
		isNot(t, fmt.Sprint("Delay ", short(c.p.Samples), c.rate), got, f, api.ErrRange)
	}
}

func TestFullness(t *testing.T) {
	for _, c := range []struct {
		p                 api.Parcel
		rate, delay, want int
	}{
		{parcel(1), 1, 0, 0},
		{parcel(1), 1, api.MaxTicks, 0},
		{parcel(1, 5, 0), 1, 0, 0},
		{threeSeconds(), 50, 4, 200},
		{threeSeconds(), 50, 5, 250},
		{threeSeconds(), 50, 6, 300},
		{threeSeconds(), 50, 7, 300},                     // all have arrived
		{threeSeconds(), api.MaxRate, api.MaxTicks, 300}, // beyond 64 bits
		{threeSeconds(), 50, api.MaxTicks, 300},
		{parcel(1, 1, 10, 1, 10, 10, 10, 1, 200), 20, 1, 200}, // before the last one: all have arrived, 230 less 30
		{parcel(1, 10, 10, 10, 10, 90, 50, 1, 60), 5, 2, 90},  // before the third one: 110 less 20
		{parcel(3, 1, 1, 1, 1), 2, 2, 1},                      // 4/3 bytes are 1, then 2 less 1
		{parcel(3, 1, 1, 1, 1), 2, 3, 2},
		{parcel(1, 0, 5, 0, 6), 11, 1, 11}, // at one time: before the first one
		{later(threeSeconds(), -9), 50, 4, 200},
		{heaviest(0), 500000, api.MaxTicks, api.MaxSamples * api.MaxSampleSize},
		{heaviest(api.MaxStep), api.MaxSampleSize, api.MaxScale, api.MaxSampleSize},
		{heaviest(api.MaxStep), api.MaxRate, api.MaxTicks, api.MaxSamples * api.MaxSampleSize},
	} {
		got, f := sample.Fullness(c.p, c.rate, c.delay)
		is(t, fmt.Sprint("Fullness ", short(c.p.Samples), c.rate, c.delay), got, f, c.want)
	}
}

func TestFullnessFaults(t *testing.T) {
	for _, c := range []struct {
		p           api.Parcel
		rate, delay int
		want        api.Fault
	}{
		{threeSeconds(), 0, 4, api.ErrRange},
		{threeSeconds(), api.MaxRate + 1, 4, api.ErrRange},
		{threeSeconds(), 50, -1, api.ErrRange},
		{threeSeconds(), 50, api.MaxTicks + 1, api.ErrRange},
		{parcel(1), 0, 0, api.ErrRange},
		{parcel(1), 1, -1, api.ErrRange},
		{threeSeconds(), 0, 0, api.ErrRange}, // the rate comes before the state
		{threeSeconds(), 50, 3, api.ErrState},
		{threeSeconds(), 50, 0, api.ErrState},
		{threeSeconds(), api.MaxRate, 0, api.ErrState},
		{parcel(api.MaxScale, 0, 1001), 1, api.MaxTicks, api.ErrState}, // where Delay is greater than any delay
		{heaviest(0), 1, 0, api.ErrState},
	} {
		got, f := sample.Fullness(c.p, c.rate, c.delay)
		isNot(t, fmt.Sprint("Fullness ", short(c.p.Samples), c.rate, c.delay), got, f, c.want)
	}
}

func TestLeastRate(t *testing.T) {
	for _, c := range []struct {
		p           api.Parcel
		delay, want int
	}{
		{parcel(1), 0, 0},
		{parcel(1), api.MaxTicks, 0},
		{parcel(1, 5, 0, 0, 0), 0, 0}, // without bytes nothing has to arrive
		{threeSeconds(), 4, 50},
		{threeSeconds(), 3, 60},
		{threeSeconds(), 5, 43}, // 300 bytes in 7 seconds: rounded up
		{threeSeconds(), 1, 100},
		{threeSeconds(), api.MaxTicks, 1},
		{parcel(1, 3, 0, 1, 300), 0, 100}, // with bytes from moment 3 on
		{parcel(1, 3, 0, 1, 301), 0, 101},
		{parcel(1, 1, 100, 1, 0, 1, 10), 1, 100}, // the first one, not the last one
		{later(threeSeconds(), 1000), 4, 50},
		{parcel(api.MaxScale, 0, 1), 1, api.MaxRate},
		{parcel(1, 0, api.MaxSampleSize), 1, api.MaxSampleSize},
		{heaviest(0), api.MaxTicks, 500000},
		{heaviest(api.MaxStep), api.MaxTicks, 83348}, // 5 * 10^8 bytes in 5999 seconds
	} {
		got, f := sample.LeastRate(c.p, c.delay)
		is(t, fmt.Sprint("LeastRate ", short(c.p.Samples), c.delay), got, f, c.want)
	}
}

func TestLeastRateFaults(t *testing.T) {
	for _, c := range []struct {
		p     api.Parcel
		delay int
	}{
		{threeSeconds(), -1},
		{threeSeconds(), api.MaxTicks + 1},
		{parcel(1), -1},
		{threeSeconds(), 0}, // a sample with bytes is taken at moment 0
		{parcel(1, 0, 0, 1, 1), 0},
		{parcel(1, 0, 1, 1, 0), 0},
		{parcel(api.MaxScale, 1, 1, 5, 1), 0},
		{parcel(api.MaxScale, 0, 2), 1}, // the result is too great
		{heaviest(0), 1},
		{heaviest(0), 499999999},
	} {
		got, f := sample.LeastRate(c.p, c.delay)
		isNot(t, fmt.Sprint("LeastRate ", short(c.p.Samples), c.delay), got, f, api.ErrRange)
	}
	n, f := sample.LeastRate(heaviest(0), 500000000)
	is(t, "LeastRate", n, f, api.MaxRate)
}

// inTime says whether each sample has arrived when it is taken, and returns the greatest fullness.
func inTime(p api.Parcel, rate, delay int) (bool, int) {
	all, taken, most := 0, 0, 0
	for _, s := range p.Samples {
		all += s.Size
	}
	good := true
	for _, s := range p.Samples {
		x := new(big.Int).Mul(big.NewInt(int64(rate)), big.NewInt(int64(delay+s.Time-p.Samples[0].Time)))
		x.Div(x, big.NewInt(int64(p.Scale)))
		arrived := all
		if x.Cmp(big.NewInt(int64(all))) < 0 {
			arrived = int(x.Int64())
		}
		most = max(most, arrived-taken)
		taken += s.Size
		good = good && arrived >= taken
	}
	return good, most
}

// leastGood returns the least number from 0 on, or more than most.
func leastGood(most int, good func(n int) bool) int {
	n := 0
	for n <= most && !good(n) {
		n++
	}
	return n
}

// Small parcels, delay by delay and rate by rate.
func TestManyBuffers(t *testing.T) {
	r := rand.New(rand.NewSource(10))
	for range 2000 {
		p := api.Parcel{Scale: 1 + r.Intn(9), Samples: draw(r, 8)}
		rate := 1 + r.Intn(100)
		what := fmt.Sprint(p, rate)
		want := leastGood(20000, func(n int) bool { good, _ := inTime(p, rate, n); return good })
		delay, f := sample.Delay(p, rate)
		is(t, "Delay "+what, delay, f, want)
		for _, more := range []int{0, 1, r.Intn(20), r.Intn(2000)} {
			_, most := inTime(p, rate, want+more)
			n, f := sample.Fullness(p, rate, want+more)
			is(t, fmt.Sprint("Fullness ", what, want+more), n, f, most)
		}
		if want > 0 {
			n, f := sample.Fullness(p, rate, want-1)
			isNot(t, "Fullness "+what, n, f, api.ErrState)
		}
		given := r.Intn(12)
		want = leastGood(5000, func(n int) bool { good, _ := inTime(p, n, given); return good })
		n, f := sample.LeastRate(p, given)
		if want > 5000 { // only where no rate is enough
			isNot(t, fmt.Sprint("LeastRate ", p, given), n, f, api.ErrRange)
			continue
		}
		is(t, fmt.Sprint("LeastRate ", p, given), n, f, want)
	}
}

// Parcels of any size: with the LeastRate of a delay, Delay is at most this delay; with a rate that is one less, and not 0, it is more.
func TestLeastRateOfDelay(t *testing.T) {
	r := rand.New(rand.NewSource(11))
	rates := 0
	for range 3000 {
		p := api.Parcel{Scale: 1 + r.Intn(api.MaxScale)>>r.Intn(30)}
		time := r.Intn(api.MaxTime)
		for range 1 + r.Intn(20) {
			s := api.Sample{Time: time, Step: r.Intn(api.MaxStep) >> r.Intn(30), Size: r.Intn(api.MaxSampleSize + 1)}
			p.Samples = append(p.Samples, s)
			time += s.Step
		}
		delay := r.Intn(api.MaxTicks) >> r.Intn(40)
		rate, f := sample.LeastRate(p, delay)
		if f != api.OK {
			if good, _ := inTime(p, api.MaxRate, delay); good || f != api.ErrRange {
				t.Error("LeastRate", p, delay, f)
			}
			continue
		}
		rates++
		if rate == 0 {
			if slices.ContainsFunc(p.Samples, func(s api.Sample) bool { return s.Size > 0 }) {
				t.Error("LeastRate", p, delay)
			}
			continue
		}
		n, f := sample.Delay(p, rate)
		if good, most := inTime(p, rate, delay); f != api.OK || n > delay || !good {
			t.Error("Delay of LeastRate", p, delay, rate, n, f)
		} else {
			n, f := sample.Fullness(p, rate, delay)
			is(t, fmt.Sprint("Fullness ", p, rate, delay), n, f, most)
		}
		if good, _ := inTime(p, rate-1, delay); good {
			t.Error("LeastRate is not the least", p, delay, rate)
		}
		if rate > 1 {
			if n, f := sample.Delay(p, rate-1); f == api.OK && n <= delay || f != api.OK && f != api.ErrRange {
				t.Error("Delay of less than LeastRate", p, delay, rate, n, f)
			}
		}
	}
	if rates < 500 {
		t.Error("few rates", rates)
	}
}
