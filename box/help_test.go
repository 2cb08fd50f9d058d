package box_test

import (
	"bytes"
	"encoding/binary"
	"fmt"
	"math"
	"math/rand"
	"reflect"
	"slices"
	"testing"

	"headend/api"
)

// numbers are bounds, and what lies beside them.
var numbers = []int{
	math.MinInt, math.MinInt + 1, -api.MaxTime - 1, -api.MaxTime, -api.MaxStep - 1, -2, -1, 0, 1, 2, 3, 8,
	api.MaxChunk, api.MaxChunk + 1, api.MaxSamples, api.MaxSamples + 1, api.MaxSampleSize, api.MaxFile, api.MaxFile + 1,
	api.MaxStep, api.MaxStep + 1, 1<<32 - 1, 1 << 32, api.MaxTime, api.MaxTime + 1, math.MaxInt,
}

// alike says whether two values of one type are equal; nil and an empty list are.
func alike(a, b reflect.Value) bool {
	switch a.Kind() {
	case reflect.Slice:
		if a.Len() != b.Len() {
			return false
		}
		for i := range a.Len() {
			if !alike(a.Index(i), b.Index(i)) {
				return false
			}
		}
		return true
	case reflect.Struct:
		for i := range a.NumField() {
			if !alike(a.Field(i), b.Field(i)) {
				return false
			}
		}
		return true
	}
	return a.Equal(b)
}

func equal[V any](a, b V) bool { return alike(reflect.ValueOf(a), reflect.ValueOf(b)) }

// is expects a value without a fault.
func is[V any](t *testing.T, what string, got V, f api.Fault, want V) {
	t.Helper()
	if f != api.OK || !equal(got, want) {
		t.Errorf("%s: got %v with fault %d, want %v", what, short(got), f, short(want))
	}
}

// isNot expects a fault, and a zero value with it.
func isNot[V any](t *testing.T, what string, got V, f, want api.Fault) {
	t.Helper()
	var zero V
	if f != want || !equal(got, zero) {
		t.Errorf("%s: got %v with fault %d, want fault %d", what, short(got), f, want)
	}
}

// isAt expects a fault with a place, and a zero value with it.
func isAt[V any](t *testing.T, what string, got V, place int, f api.Fault, wantPlace int, want api.Fault) {
	t.Helper()
	isNot(t, what, got, f, want)
	if place != wantPlace {
		t.Errorf("%s: got place %d, want %d", what, place, wantPlace)
	}
}

// tooShort expects that bytes, of which some are missing at the end, are wrong at the last one of the places that begin before this end or at it.
func tooShort[V any](t *testing.T, what string, b []byte, places []int, read func(b []byte) (V, int, api.Fault)) {
	t.Helper()
	for end := range b {
		last := 0
		for _, place := range places {
			if place <= end {
				last = place
			}
		}
		v, place, f := read(b[:end])
		isAt(t, fmt.Sprint(what, " of bytes ", end), v, place, f, last, api.ErrSyntax)
	}
}

// short is a value, or, of a long list, how long it is.
func short(v any) any {
	if x := reflect.ValueOf(v); x.Kind() == reflect.Slice && x.Len() > 100 {
		return x.Len()
	}
	return v
}

// area is the memory of a list, also its spare capacity.
type area struct{ from, to uintptr }

// areas returns the memory of all lists of a value.
func areas(v reflect.Value) []area {
	var l []area
	switch v.Kind() {
	case reflect.Slice:
		if size := uintptr(v.Cap()) * v.Type().Elem().Size(); size > 0 {
			l = append(l, area{v.Pointer(), v.Pointer() + size})
		}
		for i := range v.Len() {
			l = append(l, areas(v.Index(i))...)
		}
	case reflect.Struct:
		for i := range v.NumField() {
			l = append(l, areas(v.Field(i))...)
		}
	}
	return l
}

// apart expects that no list of a result shares memory with another one, or with one of the arguments.
func apart(t *testing.T, what string, result any, arguments ...any) {
	t.Helper()
	l := areas(reflect.ValueOf(result))
	slices.SortFunc(l, func(a, b area) int { return int(a.from) - int(b.from) })
	for i := 1; i < len(l); i++ {
		if l[i].from < l[i-1].to {
			t.Errorf("%s: two lists of the result share memory", what)
			return
		}
	}
	for _, argument := range arguments {
		for _, a := range areas(reflect.ValueOf(argument)) {
			for _, r := range l {
				if a.from < r.to && r.from < a.to {
					t.Errorf("%s: the result shares memory with an argument", what)
					return
				}
			}
		}
	}
}

// kept returns a copy of a value, with the spare capacity of its lists as elements.
func kept(v reflect.Value) reflect.Value {
	out := reflect.New(v.Type()).Elem()
	switch v.Kind() {
	case reflect.Slice:
		if v.IsNil() {
			return out
		}
		v = v.Slice(0, v.Cap())
		out.Set(reflect.MakeSlice(v.Type(), v.Len(), v.Len()))
		for i := range v.Len() {
			out.Index(i).Set(kept(v.Index(i)))
		}
	case reflect.Struct:
		for i := range v.NumField() {
			out.Field(i).Set(kept(v.Field(i)))
		}
	default:
		out.Set(v)
	}
	return out
}

// untouched expects that a call changes neither a value nor the spare capacity of its lists.
func untouched(t *testing.T, what string, v any, call func()) {
	t.Helper()
	before := kept(reflect.ValueOf(v))
	call()
	if !reflect.DeepEqual(before.Interface(), kept(reflect.ValueOf(v)).Interface()) {
		t.Errorf("%s: its argument was changed", what)
	}
}

// roomy returns a list that has spare capacity with elements in it.
func roomy[E any](l []E) []E {
	return append(slices.Clone(l), l...)[:len(l)]
}

// joined returns the bytes of texts and of numbers: an int has one byte, another number as many as its type.
func joined(parts ...any) []byte {
	var b bytes.Buffer
	for _, part := range parts {
		switch x := part.(type) {
		case string:
			b.WriteString(x)
		case []byte:
			b.Write(x)
		case int:
			b.WriteByte(byte(x))
		default:
			binary.Write(&b, binary.BigEndian, x)
		}
	}
	return b.Bytes()
}

// pairs calls a function with the first and second number, with the third and fourth one, and so on.
func pairs(numbers []int, call func(a, b int)) {
	for i := 0; i+1 < len(numbers); i += 2 {
		call(numbers[i], numbers[i+1])
	}
}

// runs returns runs of pairs of Count and Value.
func runs(numbers ...int) (l []api.Run) {
	pairs(numbers, func(a, b int) { l = append(l, api.Run{Count: a, Value: b}) })
	return l
}

// chunkRuns returns runs of pairs of First and Samples.
func chunkRuns(numbers ...int) (l []api.ChunkRun) {
	pairs(numbers, func(a, b int) { l = append(l, api.ChunkRun{First: a, Samples: b}) })
	return l
}

// spots returns spots of pairs of Place and Size.
func spots(numbers ...int) (l []api.Spot) {
	pairs(numbers, func(a, b int) { l = append(l, api.Spot{Place: a, Size: b}) })
	return l
}

// samplesOf returns samples with Steps, of which the first one is a Key, and each has two bytes.
func samplesOf(steps ...int) []api.Sample {
	var l []api.Sample
	time := 0
	for i, step := range steps {
		l = append(l, api.Sample{Time: time, Step: step, Size: 2, Key: i == 0})
		time += step
	}
	return l
}

// manySamples returns so many samples, one each tick, without bytes.
func manySamples(n int) []api.Sample {
	l := make([]api.Sample, n)
	for i := range l {
		l[i] = api.Sample{Time: i, Step: 1}
	}
	return l
}

// oneOf returns one of some numbers.
func oneOf(r *rand.Rand, l ...int) int { return l[r.Intn(len(l))] }

// anySamples returns samples that have many runs, or few.
func anySamples(r *rand.Rand, n int) []api.Sample {
	l := make([]api.Sample, n)
	time := r.Intn(100) - 50
	kinds := 1 + r.Intn(3)
	for i := range l {
		l[i] = api.Sample{Time: time, Step: 5 * r.Intn(kinds), Shift: 3 * (r.Intn(kinds) - kinds/2), Size: r.Intn(kinds), Key: r.Intn(kinds) == 0}
		time += l[i].Step
	}
	return l
}
