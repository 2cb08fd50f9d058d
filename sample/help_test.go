package sample_test

import (
	"math"
	"math/rand"
	"reflect"
	"slices"
	"testing"

	"headend/api"
)

// numbers are bounds, and what lies beside them.
var numbers = []int{
	math.MinInt, math.MinInt + 1, -api.MaxTime - 1, -api.MaxTime, -api.MaxStep - 1, -api.MaxStep, -2, -1, 0, 1, 2, 3, 7,
	api.MaxTracks, api.MaxSamples, api.MaxSamples + 1, api.MaxSampleSize, api.MaxSampleSize + 1, api.MaxStep, api.MaxStep + 1,
	api.MaxTicks, api.MaxTicks + 1, api.MaxTime, api.MaxTime + 1, math.MaxInt - 1, math.MaxInt,
}

// equal says whether two values are equal; nil and an empty list are.
func equal(a, b any) bool {
	x, y := reflect.ValueOf(a), reflect.ValueOf(b)
	if x.Kind() == reflect.Slice && x.Len() == 0 && y.Len() == 0 {
		return true
	}
	return reflect.DeepEqual(a, b)
}

// short is a value, or, of a long list, how long it is.
func short(v any) any {
	if x := reflect.ValueOf(v); x.Kind() == reflect.Slice && x.Len() > 50 {
		return x.Len()
	}
	return v
}

// is expects a value without a fault.
func is[V any](t *testing.T, what string, got V, f api.Fault, want V) {
	t.Helper()
	if f != api.OK || !equal(got, want) {
		t.Errorf("%s: got %v with fault %d, want %v", what, short(got), f, short(want))
	}
}

// isNot expects a fault, and a zero value with it.
func isNot[V any](t *testing.T, what string, got V, f, want api.Fault) {
	t.Helper()
	var zero V
	if f != want || !equal(got, zero) {
		t.Errorf("%s: got %v with fault %d, want fault %d", what, short(got), f, want)
	}
}

// isWhole expects a value, or a fault with a zero value.
func isWhole[V any](t *testing.T, what string, got V, f api.Fault) {
	t.Helper()
	if f != api.OK {
		isNot(t, what, got, f, f)
	}
}

// guarded calls a function with a list that has spare capacity, and expects that neither is changed, also when the result is.
func guarded[E, R any](t *testing.T, what string, l []E, call func(l []E) []R) {
	t.Helper()
	room := append(slices.Clone(l), l...)
	before := slices.Clone(room)
	result := call(room[:len(l)])
	clear(result[:cap(result)])
	if !reflect.DeepEqual(room, before) {
		t.Errorf("%s: its argument was changed, or shares memory with its result", what)
	}
}

// timed returns samples from a time on, with pairs of Step and Shift; each has one byte.
func timed(from int, pairs ...int) []api.Sample {
	var l []api.Sample
	for i := 0; i+1 < len(pairs); i += 2 {
		l = append(l, api.Sample{Time: from, Step: pairs[i], Shift: pairs[i+1], Size: 1})
		from += pairs[i]
	}
	return l
}

// keyed returns samples of which these numbers are Keys.
func keyed(l []api.Sample, keys ...int) []api.Sample {
	l = slices.Clone(l)
	for _, i := range keys {
		l[i].Key = true
	}
	return l
}

// parcel returns a parcel with pairs of Step and Size.
func parcel(scale int, pairs ...int) api.Parcel {
	p := api.Parcel{Scale: scale}
	time := 0
	for i := 0; i+1 < len(pairs); i += 2 {
		p.Samples = append(p.Samples, api.Sample{Time: time, Step: pairs[i], Size: pairs[i+1]})
		time += pairs[i]
	}
	return p
}

// later returns a parcel of which all samples are decoded later.
func later(p api.Parcel, by int) api.Parcel {
	p.Samples = slices.Clone(p.Samples)
	for i := range p.Samples {
		p.Samples[i].Time += by
	}
	return p
}

// repeated returns so many samples with one Step and one Size.
func repeated(n, step, size int) []api.Sample {
	l := make([]api.Sample, n)
	for i := range l {
		l[i] = api.Sample{Time: i * step, Step: step, Size: size}
	}
	return l
}

// draw returns up to most samples near to one another, often several at one time.
func draw(r *rand.Rand, most int) []api.Sample {
	l := make([]api.Sample, r.Intn(most+1))
	time := r.Intn(20) - 10
	kinds := 1 + r.Intn(4)
	for i := range l {
		l[i] = api.Sample{Time: time, Step: r.Intn(2 * kinds), Shift: r.Intn(6*kinds) - 2*kinds, Size: r.Intn(kinds) * r.Intn(50), Key: r.Intn(3) == 0}
		time += l[i].Step
	}
	return l
}

// presents returns when samples are presented.
func presents(l []api.Sample) []int {
	var out []int
	for _, s := range l {
		out = append(out, s.Time+s.Shift)
	}
	return out
}

// ends returns when the presentation of samples ends, sample by sample.
func ends(l []api.Sample) []int {
	var out []int
	for _, s := range l {
		end, found := s.Time+s.Shift+s.Step, false
		for _, n := range presents(l) {
			if n > s.Time+s.Shift && (!found || n < end) {
				end, found = n, true
			}
		}
		out = append(out, end)
	}
	return out
}
