package ladder_test

import (
	"fmt"
	"testing"

	"headend/api"
	"headend/ladder"
)

// G1, G3: no argument makes a function panic, and with a fault the results are zero.
func TestAnyNumbers(t *testing.T) {
	for _, a := range numbers {
		for _, b := range numbers {
			what := fmt.Sprint(" ", a, " ", b)
			for _, l := range [][]api.Rung{rungs(a, b, a), rungs(1, 1, a, a, 1, b), example(), points(1, 0, api.MaxBits, api.MaxQuality)} {
				anyRungs(t, what, l, a, b)
				for _, v := range []api.Viewer{{Rate: a, Height: b, Weight: a}, {Rate: a, Height: 1, Weight: b}, {Rate: api.MaxBits, Height: b, Weight: 1}} {
					anyCrowd(t, what, l, v, b)
				}
			}
			anySegments(t, what, a, b)
		}
	}
}

func anyRungs(t *testing.T, what string, l []api.Rung, a, b int) {
	numbers, f := ladder.Sensible(l)
	isWhole(t, "Sensible"+what, numbers, f)
	numbers, f = ladder.Hull(l)
	isWhole(t, "Hull"+what, numbers, f)
	x, has, f := ladder.Mixed(l, b)
	isWhole(t, "Mixed"+what, found{x, has}, f)
	if f == api.OK && has != (x.Den > 0) {
		t.Error("Mixed"+what, x, has)
	}
	numbers, has, f = ladder.Steps(l, ratio(a, b))
	isWhole(t, "Steps"+what, numbers, f)
	isWhole(t, "Steps"+what, has, f)
	if has != (len(numbers) > 0) {
		t.Error("Steps"+what, numbers, has)
	}
	numbers, f = ladder.Capped(l, a, b)
	isWhole(t, "Capped"+what, numbers, f)
	flaws, f := ladder.Wrong(l, ratio(a, b))
	isWhole(t, "Wrong"+what, flaws, f)
	rates, worth, f := ladder.Common([][]api.Rung{l, l}, []int{a, 1}, b)
	isWhole(t, "Common"+what, choiceOf(rates, worth), f)
	text, f := ladder.Text(l)
	isWhole(t, "Text"+what, text, f)
	read, line, f := ladder.Read(fmt.Sprintf("a %d %d 0\n", a, b))
	isWhole(t, "Read"+what, read, f)
	if (line > 0) != (f == api.ErrSyntax) {
		t.Error("Read"+what, line, f)
	}
}

func anyCrowd(t *testing.T, what string, l []api.Rung, v api.Viewer, most int) {
	i, has, f := ladder.Takes(l, v)
	isWhole(t, "Takes"+what, taken{i, has}, f)
	crowd := []api.Viewer{v, v}
	worth, f := ladder.Worth(l, crowd)
	isWhole(t, "Worth"+what, worth, f)
	best, worth, f := ladder.Best(l, crowd, most)
	isWhole(t, "Best"+what, choiceOf(best, worth), f)
	best, worth, f = ladder.Along(l, crowd, most)
	isWhole(t, "Along"+what, choiceOf(best, worth), f)
}

func anySegments(t *testing.T, what string, a, b int) {
	for _, sizes := range [][]int{{a}, {a, b}, {api.MaxBytes, 1}} {
		for _, longs := range [][]int{{b}, {b, a}, {1, api.MaxLong}} {
			x, f := ladder.Mean(sizes, longs, a)
			isWhole(t, "Mean"+what, x, f)
			x, has, f := ladder.Peak(sizes, longs, 1, a, b)
			isWhole(t, "Peak"+what, found{x, has}, f)
		}
	}
}

// G2: arguments are not changed, and results are new memory.
func TestMemory(t *testing.T) {
	l, crowd := example(), viewers(2500, 1080, 1, 4000, 1080, 1)
	most := ratio(2, 1)
	guarded(t, "Sensible", l, ladder.Sensible)
	guarded(t, "Hull", l, ladder.Hull)
	guarded(t, "Mixed", l, func(l []api.Rung) ([]api.Ratio, api.Fault) {
		x, _, f := ladder.Mixed(l, 2500)
		return []api.Ratio{x}, f
	})
	guarded(t, "Takes", l, func(l []api.Rung) ([]int, api.Fault) { i, _, f := ladder.Takes(l, crowd[0]); return []int{i}, f })
	guarded(t, "Worth", l, func(l []api.Rung) ([]int, api.Fault) { n, f := ladder.Worth(l, crowd); return []int{n}, f })
	guarded(t, "Worth of a crowd", crowd, func(crowd []api.Viewer) ([]int, api.Fault) { n, f := ladder.Worth(l, crowd); return []int{n}, f })
	guarded(t, "Best", l, func(l []api.Rung) ([]int, api.Fault) { x, _, f := ladder.Best(l, crowd, 2); return x, f })
	guarded(t, "Best of a crowd", crowd, func(crowd []api.Viewer) ([]int, api.Fault) { x, _, f := ladder.Best(l, crowd, 2); return x, f })
	guarded(t, "Along", l, func(l []api.Rung) ([]int, api.Fault) { x, _, f := ladder.Along(l, crowd, 2); return x, f })
	guarded(t, "Along of a crowd", crowd, func(crowd []api.Viewer) ([]int, api.Fault) { x, _, f := ladder.Along(l, crowd, 2); return x, f })
	guarded(t, "Steps", l, func(l []api.Rung) ([]int, api.Fault) { x, _, f := ladder.Steps(l, most); return x, f })
	guarded(t, "Capped", l, func(l []api.Rung) ([]int, api.Fault) { return ladder.Capped(l, 2500, 1080) })
	guarded(t, "Wrong", l, func(l []api.Rung) ([]api.Flaw, api.Fault) { return ladder.Wrong(l, ratio(3, 2)) })
	guarded(t, "Text", l, func(l []api.Rung) ([]string, api.Fault) { x, f := ladder.Text(l); return []string{x}, f })
	films, weights := [][]api.Rung{l, points(2000, 5, 5000, 9)}, []int{1, 20}
	guarded(t, "Common", films, func(l [][]api.Rung) ([]int, api.Fault) { x, _, f := ladder.Common(l, weights, 2); return x, f })
	guarded(t, "Common of weights", weights, func(w []int) ([]int, api.Fault) { x, _, f := ladder.Common(films, w, 2); return x, f })
	guarded(t, "Common of a film", l, func(l []api.Rung) ([]int, api.Fault) {
		x, _, f := ladder.Common([][]api.Rung{l, l}, []int{1, 2}, 2)
		return x, f
	})
	sizes, longs := []int{10, 30, 20}, []int{2, 5, 4}
	guarded(t, "Mean", sizes, func(l []int) ([]api.Ratio, api.Fault) { x, f := ladder.Mean(l, longs, 1); return []api.Ratio{x}, f })
	guarded(t, "Mean of lengths", longs, func(l []int) ([]api.Ratio, api.Fault) { x, f := ladder.Mean(sizes, l, 1); return []api.Ratio{x}, f })
	guarded(t, "Peak", sizes, func(l []int) ([]api.Ratio, api.Fault) {
		x, _, f := ladder.Peak(l, longs, 1, 1, 9)
		return []api.Ratio{x}, f
	})
	guarded(t, "Peak of lengths", longs, func(l []int) ([]api.Ratio, api.Fault) {
		x, _, f := ladder.Peak(sizes, l, 1, 1, 9)
		return []api.Ratio{x}, f
	})
}

// G4: an empty list is as good as nil.
func TestEmptyLists(t *testing.T) {
	none, nobody := []api.Rung{}, []api.Viewer{}
	l, f := ladder.Sensible(none)
	is(t, "Sensible", l, f, nil)
	l, f = ladder.Hull(none)
	is(t, "Hull", l, f, nil)
	x, has, f := ladder.Mixed(none, 5)
	is(t, "Mixed", found{x, has}, f, found{})
	i, has, f := ladder.Takes(none, api.Viewer{Rate: 1, Height: 1, Weight: 1})
	is(t, "Takes", taken{i, has}, f, taken{})
	n, f := ladder.Worth(none, nobody)
	is(t, "Worth", n, f, 0)
	l, n, f = ladder.Best(none, nobody, 5)
	is(t, "Best", choiceOf(l, n), f, choice{})
	l, n, f = ladder.Along(none, nobody, 5)
	is(t, "Along", choiceOf(l, n), f, choice{})
	l, n, f = ladder.Common([][]api.Rung{}, []int{}, 5)
	is(t, "Common", choiceOf(l, n), f, choice{})
	l, has, f = ladder.Steps(none, ratio(2, 1))
	is(t, "Steps", l, f, nil)
	is(t, "Steps", has, f, false)
	l, f = ladder.Capped(none, 5, 5)
	is(t, "Capped", l, f, nil)
	flaws, f := ladder.Wrong(none, ratio(2, 1))
	is(t, "Wrong", flaws, f, nil)
	text, f := ladder.Text(none)
	is(t, "Text", text, f, "")
	read, line, f := ladder.Read("")
	is(t, "Read", read, f, nil)
	is(t, "Read", line, f, 0)
	x, f = ladder.Mean([]int{}, []int{}, 1)
	isNot(t, "Mean", x, f, api.ErrNone)
	x, has, f = ladder.Peak([]int{}, []int{}, 1, 1, 1)
	isNot(t, "Peak", found{x, has}, f, api.ErrNone)
}
