package sample_test

import (
	"fmt"
	"math/rand"
	"slices"
	"testing"

	"headend/api"
	"headend/sample"
)

// orders are samples, and the orders that they have.
var orders = []struct {
	l                     []api.Sample
	presents, order, ends []int
}{
	{nil, nil, nil, nil},
	{timed(5, 10, 3), []int{8}, []int{0}, []int{18}},
	{timed(5, 0, -3), []int{2}, []int{0}, []int{2}},
	// the document's example
	{timed(-10, 10, 10, 10, 30, 10, 0, 10, 0), []int{0, 30, 10, 20}, []int{0, 2, 3, 1}, []int{10, 40, 20, 30}},
	// several at one time: the lesser number first, and the end at the next greater time
	{timed(0, 1, 4, 1, 3, 1, 5, 1, 1), []int{4, 4, 7, 4}, []int{0, 1, 3, 2}, []int{7, 7, 8, 7}},
	// several at the last time: each its own Step
	{timed(0, 1, 5, 2, 4, 3, 2, 4, 0), []int{5, 5, 5, 6}, []int{0, 1, 2, 3}, []int{6, 6, 6, 10}},
	{timed(0, 1, 5, 2, 4, 3, 2), []int{5, 5, 5}, []int{0, 1, 2}, []int{6, 7, 8}},
	// Steps of 0
	{timed(7, 0, 0, 0, 0, 0, 0), []int{7, 7, 7}, []int{0, 1, 2}, []int{7, 7, 7}},
	{timed(7, 0, 2, 0, 1, 0, 0), []int{9, 8, 7}, []int{2, 1, 0}, []int{9, 9, 8}},
	// an end after a gap, or before that of the own Step
	{timed(0, 1, 0, 1, 99), []int{0, 100}, []int{0, 1}, []int{100, 101}},
	{timed(0, 50, 0, 50, -49), []int{0, 1}, []int{0, 1}, []int{1, 51}},
	// the least and the greatest values
	{
		[]api.Sample{{Time: -api.MaxTime, Shift: -api.MaxStep}, {Time: -api.MaxTime, Step: api.MaxStep, Shift: api.MaxStep}},
		[]int{-api.MaxTime - api.MaxStep, -api.MaxTime + api.MaxStep}, []int{0, 1},
		[]int{-api.MaxTime + api.MaxStep, -api.MaxTime + 2*api.MaxStep},
	},
	{
		[]api.Sample{{Time: api.MaxTime - api.MaxStep, Step: api.MaxStep, Shift: api.MaxStep}, {Time: api.MaxTime, Shift: api.MaxStep}},
		[]int{api.MaxTime, api.MaxTime + api.MaxStep}, []int{0, 1}, []int{api.MaxTime + api.MaxStep, api.MaxTime + api.MaxStep},
	},
}

func TestOrders(t *testing.T) {
	for _, c := range orders {
		l, f := sample.Presents(c.l)
		is(t, fmt.Sprint("Presents ", c.l), l, f, c.presents)
		l, f = sample.Order(c.l)
		is(t, fmt.Sprint("Order ", c.l), l, f, c.order)
		l, f = sample.Ends(c.l)
		is(t, fmt.Sprint("Ends ", c.l), l, f, c.ends)
	}
}

func TestManyOrders(t *testing.T) {
	r := rand.New(rand.NewSource(1))
	for range 3000 {
		l := draw(r, 12)
		what := fmt.Sprint(l)
		times, f := sample.Presents(l)
		is(t, "Presents "+what, times, f, presents(l))
		times, f = sample.Ends(l)
		is(t, "Ends "+what, times, f, ends(l))
		order, f := sample.Order(l)
		at := presents(l)
		for k, i := range order {
			if k > 0 && (at[order[k-1]] > at[i] || at[order[k-1]] == at[i] && order[k-1] >= i) {
				t.Error("Order", what, order)
			}
		}
		if f != api.OK || len(order) != len(l) || len(l) > 0 && (slices.Min(order) != 0 || slices.Max(order) != len(l)-1) {
			t.Error("Order", what, order, f)
		}
	}
}

// As many samples as there can be.
func TestMostOrders(t *testing.T) {
	l := repeated(api.MaxSamples, 2, 0)
	var wantOrder, wantEnds []int
	for i := range l {
		l[i].Shift = -4 * i // presented backwards
		wantOrder = append(wantOrder, len(l)-1-i)
		wantEnds = append(wantEnds, 2-2*i)
	}
	order, f := sample.Order(l)
	is(t, "Order", order, f, wantOrder)
	got, f := sample.Ends(l)
	is(t, "Ends", got, f, wantEnds)
}

// Many samples at each of a few times.
func TestOrderOfMany(t *testing.T) {
	l := repeated(api.MaxSamples, 0, 0)
	var want []int
	for shift := range 3 {
		for i := range l {
			if i%3 == shift {
				want = append(want, i)
			}
			l[i].Shift = i % 3
		}
	}
	order, f := sample.Order(l)
	is(t, "Order", order, f, want)
}
