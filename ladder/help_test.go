package ladder_test

import (
	"fmt"
	"math"
	"math/big"
	"math/rand"
	"reflect"
	"slices"
	"testing"

	"headend/api"
)

// numbers are bounds, and what lies beside them.
var numbers = []int{
	math.MinInt, math.MinInt + 1, -api.MaxTime, -2, -1, 0, 1, 2, 14, 15, 100, 101,
	api.MaxHeight, api.MaxHeight + 1, api.MaxQuality, api.MaxQuality + 1, api.MaxBits, api.MaxBits + 1,
	api.MaxTime, api.MaxTime + 1, math.MaxInt - 1, math.MaxInt,
}

// equal says whether two values are equal; nil and an empty list are.
func equal(a, b any) bool {
	x, y := reflect.ValueOf(a), reflect.ValueOf(b)
	if x.Kind() == reflect.Slice && x.Len() == 0 && y.Len() == 0 {
		return true
	}
	return reflect.DeepEqual(a, b)
}

// short is a value, or, of a long list or text, how long it is.
func short(v any) any {
	x := reflect.ValueOf(v)
	if (x.Kind() == reflect.Slice || x.Kind() == reflect.String) && x.Len() > 40 {
		return x.Len()
	}
	return v
}

// is expects a value without a fault.
func is[V any](t *testing.T, what string, got V, f api.Fault, want V) {
	t.Helper()
	if f != api.OK || !equal(got, want) {
		t.Errorf("%s: got %v with fault %d, want %v", what, short(got), f, short(want))
	}
}

// isNot expects a fault, and a zero value with it.
func isNot[V any](t *testing.T, what string, got V, f, want api.Fault) {
	t.Helper()
	var zero V
	if f != want || !equal(got, zero) {
		t.Errorf("%s: got %v with fault %d, want fault %d", what, short(got), f, want)
	}
}

// isWhole expects a value, or a fault with a zero value.
func isWhole[V any](t *testing.T, what string, got V, f api.Fault) {
	t.Helper()
	if f != api.OK {
		isNot(t, what, got, f, f)
	}
}

// found is a ratio, and whether there is one.
type found struct {
	api.Ratio
	is bool
}

// choice is what a function chooses, and what this is worth.
type choice struct {
	numbers string
	worth   int
}

func choiceOf(l []int, worth int) choice {
	if len(l) == 0 && worth == 0 {
		return choice{}
	}
	return choice{fmt.Sprint(l), worth}
}

// taken is the number of a rendition, and whether there is one.
type taken struct {
	number int
	is     bool
}

// guarded calls a function with a list that has spare capacity, and expects that neither is changed, also when the result is.
func guarded[E, R any](t *testing.T, what string, l []E, call func(l []E) ([]R, api.Fault)) {
	t.Helper()
	room := append(slices.Clone(l), l...)
	before := slices.Clone(room)
	result, f := call(room[:len(l)])
	if f != api.OK || len(result) == 0 {
		t.Errorf("%s: fault %d", what, f)
	}
	clear(result[:cap(result)])
	if !reflect.DeepEqual(room, before) {
		t.Errorf("%s: its argument was changed, or shares memory with its result", what)
	}
}

func nameOf(i int) string { return fmt.Sprintf("r%03d", i) }

// points returns renditions of pairs of Rate and Quality.
func points(pairs ...int) []api.Rung {
	var l []api.Rung
	for i := 0; i+1 < len(pairs); i += 2 {
		l = append(l, api.Rung{Name: nameOf(i / 2), Rate: pairs[i], Height: 100, Quality: pairs[i+1]})
	}
	return l
}

// rungs returns renditions of triples of Rate, Height and Quality.
func rungs(triples ...int) []api.Rung {
	var l []api.Rung
	for i := 0; i+2 < len(triples); i += 3 {
		l = append(l, api.Rung{Name: nameOf(i / 3), Rate: triples[i], Height: triples[i+1], Quality: triples[i+2]})
	}
	return l
}

// many returns n renditions, each dearer and better than the one before it.
func many(n int) []api.Rung {
	var l []api.Rung
	for i := range n {
		l = append(l, api.Rung{Name: nameOf(i), Rate: 1000 + i, Height: 1 + i, Quality: i})
	}
	return l
}

// example is the document's.
func example() []api.Rung { return points(1000, 30, 2000, 60, 3000, 70, 4000, 90) }

// changed returns renditions of which one is another one.
func changed(l []api.Rung, i int, change func(r *api.Rung)) []api.Rung {
	l = slices.Clone(l)
	change(&l[i])
	return l
}

// draw returns at most so many renditions, often several of one Rate or one Quality.
func draw(r *rand.Rand, most int) []api.Rung {
	rates, heights, qualities := 1+r.Intn(15), 1+r.Intn(4), 1+r.Intn(12)
	var l []api.Rung
	for range r.Intn(most + 1) {
		l = append(l, api.Rung{Rate: 1 + r.Intn(rates), Height: 1 + r.Intn(heights), Quality: r.Intn(qualities)})
	}
	slices.SortStableFunc(l, func(a, b api.Rung) int { return a.Rate - b.Rate })
	for i := range l {
		l[i].Name = nameOf(i)
	}
	return l
}

// drawCrowd returns at most so many viewers.
func drawCrowd(r *rand.Rand, most int) []api.Viewer {
	var crowd []api.Viewer
	for range r.Intn(most + 1) {
		crowd = append(crowd, api.Viewer{Rate: r.Intn(18), Height: 1 + r.Intn(5), Weight: 1 + r.Intn(5)})
	}
	return crowd
}

// below returns the numbers from 0 on below n.
func below(n int) []int {
	var l []int
	for i := range n {
		l = append(l, i)
	}
	return l
}

// listsOf returns all lists of at most so many of the numbers below n, shorter ones first, of equally long ones the least first.
func listsOf(n, most int) [][]int {
	lists := [][]int{nil}
	for from := 0; from < len(lists); from++ {
		l := lists[from]
		next := 0
		if len(l) > 0 {
			next = l[len(l)-1] + 1
		}
		for ; len(l) < most && next < n; next++ {
			lists = append(lists, append(slices.Clone(l), next))
		}
	}
	return lists
}

func TestListsOf(t *testing.T) {
	want := "[[] [0] [1] [2] [0 1] [0 2] [1 2]]"
	if got := fmt.Sprint(listsOf(3, 2)); got != want {
		t.Error("listsOf", got)
	}
}

// picked returns the renditions with some numbers.
func picked(l []api.Rung, numbers []int) []api.Rung {
	var out []api.Rung
	for _, i := range numbers {
		out = append(out, l[i])
	}
	return out
}

// rat returns a / b.
func rat(a, b int) *big.Rat { return big.NewRat(int64(a), int64(b)) }

// ratioOf returns a number as a ratio, or false, if it has too large a Num.
func ratioOf(x *big.Rat) (api.Ratio, bool) {
	if !x.Num().IsInt64() {
		return api.Ratio{}, false
	}
	return api.Ratio{Num: int(x.Num().Int64()), Den: int(x.Denom().Int64())}, true
}
