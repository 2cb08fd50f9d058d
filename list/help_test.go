package list_test

import (
	"cmp"
	"fmt"
	"math"
	"math/rand"
	"reflect"
	"slices"
	"strings"
	"testing"

	"headend/api"
)

const (
	maxFirst = api.MaxTime - api.MaxEntries
	maxBits  = 10000000000 // bits per second of a stream
)

// numbers are bounds, and what lies beside them.
var numbers = []int{
	math.MinInt, math.MinInt + 1, -api.MaxTime - 1, -api.MaxTime, -2, -1, 0, 1, 2, 3, 499, 500,
	api.MaxEntries, api.MaxEntries + 1, api.MaxTarget, api.MaxTarget + 1, api.MaxSide, api.MaxSide + 1, api.MaxMillis, api.MaxMillis + 1,
	maxBits, maxBits + 1, api.MaxMilli, api.MaxMilli + 1, maxFirst, maxFirst + 1, api.MaxTime, api.MaxTime + 1, math.MaxInt - 1, math.MaxInt,
}

// pair is two results of a function.
type pair struct{ a, b int }

// equal says whether two values are equal; nil and an empty list are.
func equal(a, b any) bool { return equalValues(reflect.ValueOf(a), reflect.ValueOf(b)) }

func equalValues(a, b reflect.Value) bool {
	switch a.Kind() {
	case reflect.Slice:
		for i := range min(a.Len(), b.Len()) {
			if !equalValues(a.Index(i), b.Index(i)) {
				return false
			}
		}
		return a.Len() == b.Len()
	case reflect.Struct:
		for i := range a.NumField() {
			if !equalValues(a.Field(i), b.Field(i)) {
				return false
			}
		}
		return true
	}
	return a.Equal(b)
}

func TestEqual(t *testing.T) {
	x, y := api.List{Entries: []api.Entry{{Uri: "a"}}}, api.List{Entries: []api.Entry{{Uri: "a", Extra: []string{}}}}
	if !equal(x, y) || !equal([]int{}, []int(nil)) || !equal(pair{1, 2}, pair{1, 2}) {
		t.Error("not equal")
	}
	y.Entries[0].Extra = []string{"#X"}
	if equal(x, y) || equal([]int{1, 2}, []int{1}) || equal([]int{1}, []int{1, 2}) || equal(pair{1, 2}, pair{1, 3}) {
		t.Error("equal")
	}
}

// short is the beginning of what a value looks like.
func short(v any) string {
	text := fmt.Sprintf("%+v", v)
	return text[:min(len(text), 600)]
}

// is expects a value without a fault.
func is[V any](t *testing.T, what string, got V, f api.Fault, want V) {
	t.Helper()
	if f != api.OK || !equal(got, want) {
		t.Errorf("%s: got %s with fault %d, want %s", what, short(got), f, short(want))
	}
}

// isNot expects a fault, and a zero value with it.
func isNot[V any](t *testing.T, what string, got V, f, want api.Fault) {
	t.Helper()
	var zero V
	if f != want || !equal(got, zero) {
		t.Errorf("%s: got %s with fault %d, want fault %d", what, short(got), f, want)
	}
}

// isWhole expects a value, or a fault with a zero value.
func isWhole[V any](t *testing.T, what string, got V, f api.Fault) {
	t.Helper()
	if f != api.OK {
		isNot(t, what, got, f, f)
	}
}

// isFault expects a fault, or none.
func isFault(t *testing.T, what string, f, want api.Fault) {
	t.Helper()
	if f != want {
		t.Errorf("%s: fault %d, want %d", what, f, want)
	}
}

// wrong is something that makes a good argument wrong, and the fault with which this is told.
type wrong[V any] struct {
	what   string
	fault  api.Fault
	change func(v *V)
}

// inOrder expects that a function tells each one of some wrong things, and of two of them the first one.
func inOrder[V any](t *testing.T, what string, good func() V, call func(v V) api.Fault, wrongs []wrong[V]) {
	t.Helper()
	isFault(t, what, call(good()), api.OK)
	for i, first := range wrongs {
		v := good()
		first.change(&v)
		isFault(t, what+": "+first.what, call(v), first.fault)
		for _, later := range wrongs[i+1:] {
			v := good()
			later.change(&v)
			first.change(&v)
			isFault(t, what+": "+first.what+" before "+later.what, call(v), first.fault)
		}
	}
}

// pages has, for a value, what all its slices hold, up to their capacity.
func pages(v reflect.Value) string {
	var text strings.Builder
	switch v.Kind() {
	case reflect.Slice:
		for i := range v.Cap() {
			text.WriteString("[" + pages(v.Slice(0, v.Cap()).Index(i)) + "]")
		}
	case reflect.Struct:
		for i := range v.NumField() {
			text.WriteString(pages(v.Field(i)) + ";")
		}
	default:
		fmt.Fprintf(&text, "%#v", v.Interface())
	}
	return text.String()
}

// region is where a slice lies in memory.
type region struct{ from, to uintptr }

// regionsOf returns where all slices of a value lie.
func regionsOf(v reflect.Value) []region {
	var l []region
	switch v.Kind() {
	case reflect.Slice:
		if v.Cap() > 0 {
			l = append(l, region{v.Pointer(), v.Pointer() + uintptr(v.Cap())*v.Type().Elem().Size()})
		}
		for i := range v.Len() {
			l = append(l, regionsOf(v.Index(i))...)
		}
	case reflect.Struct:
		for i := range v.NumField() {
			l = append(l, regionsOf(v.Field(i))...)
		}
	}
	return l
}

// guarded calls a function with arguments, and expects that they stay as they are, and share no memory with its results, nor these with each other.
func guarded(t *testing.T, what string, call func() (api.Fault, []any), args ...any) {
	t.Helper()
	var before []string
	var regions []region
	for _, arg := range args {
		before = append(before, pages(reflect.ValueOf(arg)))
		regions = append(regions, regionsOf(reflect.ValueOf(arg))...)
	}
	f, results := call()
	isFault(t, what, f, api.OK)
	for i, arg := range args {
		if pages(reflect.ValueOf(arg)) != before[i] {
			t.Errorf("%s: argument %d was changed", what, i)
		}
	}
	for _, result := range results {
		regions = append(regions, regionsOf(reflect.ValueOf(result))...)
	}
	slices.SortFunc(regions, func(a, b region) int { return cmp.Compare(a.from, b.from) })
	for i := range len(regions) - 1 {
		if regions[i].to > regions[i+1].from {
			t.Errorf("%s: memory is shared", what)
		}
	}
}

// roomy returns a list of which all slices have spare capacity that is not empty.
func roomy(l api.List) api.List {
	var entries []api.Entry
	for _, e := range l.Entries {
		e.Extra = append(slices.Clone(e.Extra), "#X-SPARE", "#X-SPARE")[:len(e.Extra)]
		entries = append(entries, e)
	}
	spare := api.Entry{Uri: "spare", Milli: 1, Date: 5, Key: "spare"}
	l.Entries = append(entries, spare, spare, spare)[:len(entries)]
	return l
}

// entry returns an ordinary entry.
func entry(uri string, milli int) api.Entry { return api.Entry{Uri: uri, Milli: milli, Date: -1} }

// listOf returns a list of ordinary entries.
func listOf(first int, millis ...int) api.List {
	l := api.List{Target: api.MaxTarget, First: first}
	for i, milli := range millis {
		l.Entries = append(l.Entries, entry(fmt.Sprint("s", first+i), milli))
	}
	return l
}

// many returns a list of n entries.
func many(n int) api.List { return listOf(0, slices.Repeat([]int{1000}, n)...) }

// clone returns a list that shares no memory with another one.
func clone(l api.List) api.List {
	l.Entries = slices.Clone(l.Entries)
	for i, e := range l.Entries {
		l.Entries[i].Extra = slices.Clone(e.Extra)
	}
	return l
}

// changed returns a list of which something is otherwise.
func changed(l api.List, change func(l *api.List)) api.List {
	l = clone(l)
	change(&l)
	return l
}

// edited returns a list of which an entry is otherwise.
func edited(l api.List, place int, change func(e *api.Entry)) api.List {
	return changed(l, func(l *api.List) { change(&l.Entries[place]) })
}

// all returns a list that has all that there is.
func all() api.List {
	return api.List{Target: 6, First: 5, Breaks: 3, Entries: []api.Entry{
		{Uri: "a", Milli: 4000, Break: true, Date: 5000, Key: "k1", Extra: []string{"#X", "#X-NOTE 1"}},
		{Uri: "b", Milli: 6000, Date: -1, Key: "k1", Gap: true},
		{Uri: "c", Milli: 6499, Date: -1, Extra: []string{"#X 3"}},
		{Uri: "d", Milli: 1, Break: true, Date: -1, Key: "k2"},
	}}
}

// none returns a list without entries.
func none() api.List { return api.List{Target: 6, First: 7, Breaks: 2} }

// bad returns a list of which Check says ErrForm.
func bad() api.List {
	return edited(all(), 1, func(e *api.Entry) { e.Uri = "#" })
}

// drawEntry returns an entry, often with something.
func drawEntry(r *rand.Rand, uri string) api.Entry {
	often := func(n int) bool { return r.Intn(n) == 0 }
	e := entry(uri, 1+r.Intn(9))
	e.Break, e.Gap = often(4), often(6)
	e.Key = []string{"", "", "k1", "k2"}[r.Intn(4)]
	if often(4) {
		e.Date = 100 + r.Intn(100)
	}
	for range r.Intn(8) - 5 {
		e.Extra = append(e.Extra, fmt.Sprint("#X", r.Intn(9)))
	}
	return e
}

// draw returns a list with at most so many entries.
func draw(r *rand.Rand, most int) api.List {
	l := api.List{Target: 1 + r.Intn(5), First: r.Intn(5), Breaks: r.Intn(3), Ended: r.Intn(4) == 0}
	for i := range r.Intn(most + 1) {
		l.Entries = append(l.Entries, drawEntry(r, fmt.Sprint("s", l.First+i)))
	}
	return l
}

// lengthOf returns the sum of all Milli.
func lengthOf(entries []api.Entry) int {
	sum := 0
	for _, e := range entries {
		sum += e.Milli
	}
	return sum
}

// breakOf returns the break number of the entry with a place.
func breakOf(l api.List, place int) int {
	number := l.Breaks
	for _, e := range l.Entries[:place+1] {
		if e.Break {
			number++
		}
	}
	return number
}
