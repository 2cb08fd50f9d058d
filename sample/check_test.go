package sample_test

import (
	"fmt"
	"slices"
	"testing"

	"headend/api"
	"headend/sample"
)

// badSamples are lists, and the faults of box.CheckSamples that they have.
var badSamples = []struct {
	what string
	l    []api.Sample
	want api.Fault
}{
	{"too many", repeated(api.MaxSamples+1, 0, 0), api.ErrLarge},
	{"time", []api.Sample{{Time: -api.MaxTime - 1}}, api.ErrRange},
	{"step", []api.Sample{{Step: api.MaxStep + 1}}, api.ErrRange},
	{"shift", []api.Sample{{Shift: -api.MaxStep - 1}}, api.ErrRange},
	{"size", []api.Sample{{Size: -1}}, api.ErrRange},
	{"gap", []api.Sample{{Step: 1}, {Time: 2}}, api.ErrOrder},
	{"end", []api.Sample{{Time: api.MaxTime, Step: 1}}, api.ErrRange},
}

// The fault of the samples comes before all others.
func TestSampleFaults(t *testing.T) {
	for _, c := range badSamples {
		times, f := sample.Presents(c.l)
		isNot(t, "Presents "+c.what, times, f, c.want)
		times, f = sample.Order(c.l)
		isNot(t, "Order "+c.what, times, f, c.want)
		times, f = sample.Ends(c.l)
		isNot(t, "Ends "+c.what, times, f, c.want)
		groups, f := sample.Groups(c.l)
		isNot(t, "Groups "+c.what, groups, f, c.want)
		for _, s := range []api.Span{{From: 0, To: 1}, {}, {From: 0, To: api.MaxTime + 1}} {
			kept, f := sample.Needed(c.l, s)
			isNot(t, "Needed "+c.what, kept, f, c.want)
		}
		for _, k := range []api.Kept{{}, {From: -1}} {
			l, f := sample.Cut(c.l, k)
			isNot(t, "Cut "+c.what, l, f, c.want)
		}
		for _, by := range []int{0, api.MaxTime + 1} {
			l, f := sample.Moved(c.l, by)
			isNot(t, "Moved "+c.what, l, f, c.want)
		}
		l, n, f := sample.Tight(c.l)
		isNot(t, "Tight "+c.what, l, f, c.want)
		is(t, "Tight "+c.what, n, api.OK, 0)
		for _, step := range []int{0, 1} {
			l, f := sample.Straight(c.l, step, 0)
			isNot(t, "Straight "+c.what, l, f, c.want)
		}
	}
}

// Join looks at both lists, one after the other, before it looks whether one has no samples.
func TestJoinSampleFaults(t *testing.T) {
	good := timed(0, 1, 0)
	for _, c := range badSamples {
		for _, other := range [][]api.Sample{nil, good} {
			l, f := sample.Join(c.l, other)
			isNot(t, "Join "+c.what, l, f, c.want)
			l, f = sample.Join(other, c.l)
			isNot(t, "Join to "+c.what, l, f, c.want)
		}
		for _, d := range badSamples {
			l, f := sample.Join(c.l, d.l)
			isNot(t, "Join "+c.what+" and "+d.what, l, f, c.want)
		}
	}
}

// badParcels are those with bad samples, and, behind them, with bad scales.
func badParcels() (parcels []api.Parcel, faults []api.Fault) {
	for _, c := range badSamples {
		for _, scale := range []int{1, 0} {
			parcels = append(parcels, api.Parcel{Scale: scale, Samples: c.l})
			faults = append(faults, c.want)
		}
	}
	for _, scale := range []int{0, -1, api.MaxScale + 1} {
		parcels = append(parcels, api.Parcel{Scale: scale}, parcel(scale, 1, 1), parcel(scale, 0, 5))
		faults = append(faults, api.ErrRange, api.ErrRange, api.ErrRange)
	}
	return parcels, faults
}

func TestParcelFaults(t *testing.T) {
	parcels, faults := badParcels()
	for i, p := range parcels {
		what := fmt.Sprint(" of parcel ", i)
		n, f := sample.Mean(p)
		isNot(t, "Mean"+what, n, f, faults[i])
		for _, arg := range []int{1, -1} {
			n, f = sample.Peak(p, arg)
			isNot(t, "Peak"+what, n, f, faults[i])
			n, f = sample.Delay(p, arg)
			isNot(t, "Delay"+what, n, f, faults[i])
			for _, delay := range []int{0, -1} {
				n, f = sample.Fullness(p, arg, delay)
				isNot(t, "Fullness"+what, n, f, faults[i])
			}
			n, f = sample.LeastRate(p, arg)
			isNot(t, "LeastRate"+what, n, f, faults[i])
		}
		for _, most := range []int{0, -1} {
			l, f := sample.Interleave([]api.Parcel{parcel(1), p}, most)
			isNot(t, "Interleave"+what, l, f, faults[i])
		}
		for j, other := range parcels { // parcel by parcel
			l, f := sample.Interleave([]api.Parcel{p, other}, 0)
			isNot(t, fmt.Sprint("Interleave", what, " and ", j), l, f, faults[i])
		}
	}
}

// G1: no argument makes a function panic, and with a fault the results are zero.
func TestAnyNumbers(t *testing.T) {
	for _, a := range numbers {
		for _, b := range numbers {
			what := fmt.Sprint(" ", a, " ", b)
			anyTimeCalls(t, what, a, b)
			for _, l := range [][]api.Sample{
				nil,
				{{Time: a, Step: b, Shift: a, Size: b}, {Time: b, Step: a, Size: a}},
				{{Time: a, Step: api.MaxStep, Shift: b, Size: api.MaxSampleSize}},
				{{Step: api.MaxStep, Size: 1}, {Time: api.MaxStep, Shift: b, Size: a}},
				repeated(3, api.MaxStep, api.MaxSampleSize),
			} {
				anySampleCalls(t, what, l, a, b)
				for _, scale := range []int{1, b, api.MaxScale} {
					anyParcelCalls(t, what, api.Parcel{Scale: scale, Samples: l}, a, b)
				}
			}
		}
	}
}

func anyTimeCalls(t *testing.T, what string, a, b int) {
	for _, times := range [][]int{nil, {a}, {a, b}, {b, 0, a}} {
		for n := range 3 {
			l, f := sample.Reordered(times, b, slices.Repeat([]int{a}, n), make([]bool, n))
			isWhole(t, "Reordered"+what, l, f)
		}
	}
}

func anySampleCalls(t *testing.T, what string, l []api.Sample, a, b int) {
	times, f := sample.Presents(l)
	isWhole(t, "Presents"+what, times, f)
	times, f = sample.Order(l)
	isWhole(t, "Order"+what, times, f)
	times, f = sample.Ends(l)
	isWhole(t, "Ends"+what, times, f)
	groups, f := sample.Groups(l)
	isWhole(t, "Groups"+what, groups, f)
	kept, f := sample.Needed(l, api.Span{From: a, To: b})
	isWhole(t, "Needed"+what, kept, f)
	out, f := sample.Cut(l, api.Kept{From: a, To: b, Skip: a})
	isWhole(t, "Cut"+what, out, f)
	out, f = sample.Moved(l, a)
	isWhole(t, "Moved"+what, out, f)
	out, f = sample.Join(l, timed(a, 1, 0))
	isWhole(t, "Join"+what, out, f)
	out, f = sample.Join(timed(a, 1, 0), l)
	isWhole(t, "Join"+what, out, f)
	out, n, f := sample.Tight(l)
	isWhole(t, "Tight"+what, out, f)
	isWhole(t, "Tight"+what, n, f)
	out, f = sample.Straight(l, a, b)
	isWhole(t, "Straight"+what, out, f)
}

func anyParcelCalls(t *testing.T, what string, p api.Parcel, a, b int) {
	l, f := sample.Interleave([]api.Parcel{p, parcel(1, 1, 1), p}, a)
	isWhole(t, "Interleave"+what, l, f)
	n, f := sample.Mean(p)
	isWhole(t, "Mean"+what, n, f)
	n, f = sample.Peak(p, a)
	isWhole(t, "Peak"+what, n, f)
	n, f = sample.Delay(p, a)
	isWhole(t, "Delay"+what, n, f)
	n, f = sample.Fullness(p, a, b)
	isWhole(t, "Fullness"+what, n, f)
	n, f = sample.LeastRate(p, a)
	isWhole(t, "LeastRate"+what, n, f)
}

// G2: arguments are not changed, and results are new memory.
func TestMemory(t *testing.T) {
	l := keyed(timed(-10, 10, 10, 10, 30, 10, 0, 10, 0), 0, 2)
	other := timed(50, 10, 0, 20, 0)
	guarded(t, "Presents", l, func(l []api.Sample) []int { x, _ := sample.Presents(l); return x })
	guarded(t, "Order", l, func(l []api.Sample) []int { x, _ := sample.Order(l); return x })
	guarded(t, "Ends", l, func(l []api.Sample) []int { x, _ := sample.Ends(l); return x })
	guarded(t, "Groups", l, func(l []api.Sample) []api.Group { x, _ := sample.Groups(l); return x })
	for what, call := range map[string]func(l []api.Sample) ([]api.Sample, api.Fault){
		"Cut":         func(l []api.Sample) ([]api.Sample, api.Fault) { return sample.Cut(l, api.Kept{From: 1, To: 3}) },
		"Cut all":     func(l []api.Sample) ([]api.Sample, api.Fault) { return sample.Cut(l, api.Kept{To: 4}) },
		"Moved":       func(l []api.Sample) ([]api.Sample, api.Fault) { return sample.Moved(l, 5) },
		"Moved by 0":  func(l []api.Sample) ([]api.Sample, api.Fault) { return sample.Moved(l, 0) },
		"Join":        func(l []api.Sample) ([]api.Sample, api.Fault) { return sample.Join(l, other) },
		"Join to":     func(l []api.Sample) ([]api.Sample, api.Fault) { return sample.Join(other, l) },
		"Join nil":    func(l []api.Sample) ([]api.Sample, api.Fault) { return sample.Join(l, nil) },
		"Join to nil": func(l []api.Sample) ([]api.Sample, api.Fault) { return sample.Join(nil, l) },
		"Tight":       func(l []api.Sample) ([]api.Sample, api.Fault) { x, _, f := sample.Tight(l); return x, f },
		"Straight":    func(l []api.Sample) ([]api.Sample, api.Fault) { return sample.Straight(l, 7, 2) },
	} {
		guarded(t, what, l, func(l []api.Sample) []api.Sample {
			x, f := call(l)
			if f != api.OK || len(x) == 0 {
				t.Error(what, f)
			}
			return x
		})
	}
	guarded(t, "Reordered times", []int{5, 9, 7}, func(times []int) []api.Sample {
		x, _ := sample.Reordered(times, 1, []int{1, 2, 3}, make([]bool, 3))
		return x
	})
	guarded(t, "Reordered sizes", []int{5, 9, 7}, func(sizes []int) []api.Sample {
		x, _ := sample.Reordered([]int{1, 3, 2}, 1, sizes, make([]bool, 3))
		return x
	})
	guarded(t, "Interleave samples", l, func(l []api.Sample) []api.Slice {
		x, _ := sample.Interleave([]api.Parcel{{Scale: 1, Samples: l}, {Scale: 2, Samples: l}}, 10)
		return x
	})
	guarded(t, "Interleave", []api.Parcel{{Scale: 1, Samples: l}, {Scale: 2, Samples: other}}, func(l []api.Parcel) []api.Slice {
		x, _ := sample.Interleave(l, 10)
		return x
	})
}
