package cut_test

import (
	"math"
	"math/rand"
	"reflect"
	"slices"
	"testing"

	"headend/api"
)

// numbers are bounds, and what lies beside them.
var numbers = []int{
	math.MinInt, math.MinInt + 1, -api.MaxTime - 1, -api.MaxTime, -2, -1, 0, 1, 2, 7,
	api.MaxCuts, api.MaxCuts + 1, api.MaxScale, api.MaxScale + 1, 1<<32 - 1, 1 << 32,
	api.MaxTime - api.MaxCuts, api.MaxTime - api.MaxCuts + 1, api.MaxTime, api.MaxTime + 1, math.MaxInt - 1, math.MaxInt,
}

// equal says whether two values are equal; nil and an empty list are.
func equal(a, b any) bool {
	x, y := reflect.ValueOf(a), reflect.ValueOf(b)
	if x.Kind() == reflect.Slice && x.Len() == 0 && y.Len() == 0 {
		return true
	}
	return reflect.DeepEqual(a, b)
}

// short is a value, or, of a long list, how long it is.
func short(v any) any {
	if x := reflect.ValueOf(v); x.Kind() == reflect.Slice && x.Len() > 40 {
		return x.Len()
	}
	return v
}

// is expects a value without a fault.
func is[V any](t *testing.T, what string, got V, f api.Fault, want V) {
	t.Helper()
	if f != api.OK || !equal(got, want) {
		t.Errorf("%s: got %v with fault %d, want %v", what, short(got), f, short(want))
	}
}

// isNot expects a fault, and a zero value with it.
func isNot[V any](t *testing.T, what string, got V, f, want api.Fault) {
	t.Helper()
	var zero V
	if f != want || !equal(got, zero) {
		t.Errorf("%s: got %v with fault %d, want fault %d", what, short(got), f, want)
	}
}

// isEither expects a value, or, if there is a fault, this with a zero value.
func isEither[V any](t *testing.T, what string, got V, f api.Fault, want V, fault api.Fault) {
	t.Helper()
	if fault == api.OK {
		is(t, what, got, f, want)
	} else {
		isNot(t, what, got, f, fault)
	}
}

// isWhole expects a value, or a fault with a zero value.
func isWhole[V any](t *testing.T, what string, got V, f api.Fault) {
	t.Helper()
	if f != api.OK {
		isNot(t, what, got, f, f)
	}
}

// pair is two numbers that a function returns together.
type pair struct{ a, b int }

// guarded calls a function with a list that has spare capacity, and expects that neither is changed, also when the result is.
func guarded[E, R any](t *testing.T, what string, l []E, call func(l []E) ([]R, api.Fault)) {
	t.Helper()
	room := append(slices.Clone(l), l...)
	before := slices.Clone(room)
	result, f := call(room[:len(l)])
	if f != api.OK || len(result) == 0 {
		t.Errorf("%s: fault %d", what, f)
	}
	clear(result[:cap(result)])
	if !reflect.DeepEqual(room, before) {
		t.Errorf("%s: its argument was changed, or shares memory with its result", what)
	}
}

// timed returns samples from a time on, with pairs of Step and Shift, and 1, 2, 4 .. bytes.
func timed(from int, pairs ...int) []api.Sample {
	var l []api.Sample
	for i := 0; i+1 < len(pairs); i += 2 {
		l = append(l, api.Sample{Time: from, Step: pairs[i], Shift: pairs[i+1], Size: 1 << (i / 2 % 16)})
		from += pairs[i]
	}
	return l
}

// line returns n samples with one Step, presented when they are decoded, of which these numbers are Keys.
func line(n, from, step int, keys ...int) []api.Sample {
	var l []api.Sample
	for i := range n {
		l = append(l, api.Sample{Time: from + i*step, Step: step, Size: 1 << (i % 16), Key: slices.Contains(keys, i)})
	}
	return l
}

// keyed returns samples of which these numbers are Keys.
func keyed(l []api.Sample, keys ...int) []api.Sample {
	l = slices.Clone(l)
	for _, i := range keys {
		l[i].Key = true
	}
	return l
}

func pictures(name string, scale int, l []api.Sample) api.Strand {
	return api.Strand{Name: name, Scale: scale, Samples: l}
}

func sound(name string, scale int, l []api.Sample) api.Strand {
	return api.Strand{Name: name, Scale: scale, Sound: true, Samples: l}
}

// draw returns from one to most samples near to one another, often Keys, and often several at one time.
func draw(r *rand.Rand, most int) []api.Sample {
	var l []api.Sample
	time := r.Intn(12) - 6
	shifts := 1 + r.Intn(2)*r.Intn(9)
	for range 1 + r.Intn(most) {
		l = append(l, api.Sample{Time: time, Step: r.Intn(5), Shift: r.Intn(shifts) - shifts/3, Size: r.Intn(100), Key: r.Intn(2) == 0})
		time += l[len(l)-1].Step
	}
	return l
}

// presents returns when samples are presented.
func presents(l []api.Sample) []int {
	var out []int
	for _, s := range l {
		out = append(out, s.Time+s.Shift)
	}
	return out
}

// ends returns when the presentation of samples ends, sample by sample.
func ends(l []api.Sample) []int {
	var out []int
	for _, s := range l {
		end, found := s.Time+s.Shift+s.Step, false
		for _, n := range presents(l) {
			if n > s.Time+s.Shift && (!found || n < end) {
				end, found = n, true
			}
		}
		out = append(out, end)
	}
	return out
}

// bytesOf returns how many bytes samples have together.
func bytesOf(l []api.Sample) int {
	n := 0
	for _, s := range l {
		n += s.Size
	}
	return n
}

// closed returns the first samples of closed groups, sample by sample.
func closed(l []api.Sample) []int {
	at := presents(l)
	var out []int
	for i, s := range l {
		good := s.Key
		for k := range l {
			behind := k > i && !slices.ContainsFunc(l[i+1:k+1], func(s api.Sample) bool { return s.Key }) // in the same group
			if k < i && at[k] >= at[i] || behind && at[k] <= at[i] {
				good = false
			}
		}
		if good {
			out = append(out, i)
		}
	}
	return out
}
