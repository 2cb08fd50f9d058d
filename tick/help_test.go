package tick_test

import (
	"math"
	"math/big"
	"slices"
	"testing"

	"headend/api"
)

// numbers are bounds, and what lies beside them.
var numbers = []int{
	math.MinInt, math.MinInt + 1, -api.MaxTime - 1, -api.MaxTime, -1000, -1, 0, 1, 2, 3, 9, 10, 48, 49, 64,
	1000, api.MaxFrames, api.MaxFrames + 1, api.MaxScale, api.MaxScale + 1,
	api.MaxMilli, api.MaxMilli + 1, api.MaxTime, api.MaxTime + 1, math.MaxInt,
}

// isValue expects a value without a fault.
func isValue[V comparable](t *testing.T, what string, got V, f api.Fault, want V) {
	t.Helper()
	if f != api.OK || got != want {
		t.Errorf("%s: got %v with fault %d, want %v", what, got, f, want)
	}
}

// isList expects a list without a fault.
func isList[V comparable](t *testing.T, what string, got []V, f api.Fault, want []V) {
	t.Helper()
	if f != api.OK || !slices.Equal(got, want) {
		t.Errorf("%s: got %v with fault %d, want %v", what, got, f, want)
	}
}

// isFault expects a fault, and the value 0 with it.
func isFault[V comparable](t *testing.T, what string, got V, f, want api.Fault) {
	t.Helper()
	var zero V
	if f != want || got != zero {
		t.Errorf("%s: got %v with fault %d, want fault %d", what, got, f, want)
	}
}

// isListFault expects a fault, and no list with it.
func isListFault[V any](t *testing.T, what string, got []V, f, want api.Fault) {
	t.Helper()
	if f != want || len(got) != 0 {
		t.Errorf("%s: got %d elements with fault %d, want fault %d", what, len(got), f, want)
	}
}

// guarded calls a function with a copy of a list that has spare capacity, and expects that neither is changed, also when the result is.
func guarded[V comparable](t *testing.T, what string, l []V, mark V, call func(l []V) []V) {
	t.Helper()
	room := append(slices.Clone(l), mark, mark, mark)
	result := call(room[:len(l)])
	for i := range result {
		result[i] = mark
	}
	_ = append(result, mark)
	if !slices.Equal(room[:len(l)], l) {
		t.Errorf("%s: its argument was changed, or shares memory with its result", what)
	}
	for _, v := range room[len(l):] {
		if v != mark {
			t.Errorf("%s: the spare capacity of its argument was written", what)
		}
	}
}

// exact returns num / den, rounded by a way, with numbers of any length.
func exact(num, den *big.Int, way int) *big.Int {
	floor, rest := new(big.Int).DivMod(num, den, new(big.Int)) // den is above 0
	twice := new(big.Int).Lsh(rest, 1).Cmp(den)
	up := way == api.Up && rest.Sign() > 0
	if way == api.Near {
		up = twice > 0 || twice == 0 && num.Sign() > 0
	}
	if up {
		floor.Add(floor, big.NewInt(1))
	}
	return floor
}

// product returns the product of numbers.
func product(l ...int) *big.Int {
	p := big.NewInt(1)
	for _, n := range l {
		p.Mul(p, big.NewInt(int64(n)))
	}
	return p
}

func isTime(n *big.Int) bool {
	return n.CmpAbs(big.NewInt(api.MaxTime)) <= 0
}
