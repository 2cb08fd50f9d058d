package sample_test

import (
	"fmt"
	"math/rand"
	"slices"
	"testing"

	"headend/api"
	"headend/box"
	"headend/sample"
)

func TestMoved(t *testing.T) {
	for _, c := range []struct {
		l    []api.Sample
		by   int
		want []api.Sample
	}{
		{nil, 5, nil},
		{nil, api.MaxTime, nil},
		{group(0), 0, group(0)},
		{group(0), 7, keyed(timed(-3, 10, 10, 10, 30, 10, 0, 10, 0), 0)}, // the Shifts stay
		{group(0), -7, keyed(timed(-17, 10, 10, 10, 30, 10, 0, 10, 0), 0)},
		{timed(0, 1, 5), api.MaxTime - 1, timed(api.MaxTime-1, 1, 5)},
		{timed(0, 1, 5), -api.MaxTime, timed(-api.MaxTime, 1, 5)},
		{timed(api.MaxTime, 0, 0), -api.MaxTime, timed(0, 0, 0)},
	} {
		got, f := sample.Moved(c.l, c.by)
		is(t, fmt.Sprint("Moved ", c.l, c.by), got, f, c.want)
	}
	for _, c := range []struct {
		l  []api.Sample
		by int
	}{
		{nil, api.MaxTime + 1},
		{nil, -api.MaxTime - 1},
		{timed(api.MaxTime, 0, 0), -api.MaxTime - 1}, // the result had a time
		{timed(-api.MaxTime, 0, 0), api.MaxTime + 1},
		{timed(0, 1, 0), api.MaxTime},     // the end
		{timed(-1, 1, 0), -api.MaxTime},   // the first Time
		{timed(1, 0, 0), api.MaxTime},     // a Time
		{timed(-9, 9, 0), -api.MaxTime},   // a Time below
		{timed(0, 5, 0, 5, 0), 1<<63 - 1}, // beyond 64 bits
	} {
		got, f := sample.Moved(c.l, c.by)
		isNot(t, fmt.Sprint("Moved ", c.l, c.by), got, f, api.ErrRange)
	}
}

func TestJoin(t *testing.T) {
	for _, c := range []struct{ a, b, want []api.Sample }{
		{nil, nil, nil},
		{group(0), nil, group(0)},
		{nil, group(0), group(0)}, // not moved
		{group(0), group(1), keyed(timed(-10, 10, 10, 10, 30, 10, 0, 10, 0, 10, 10, 10, 30, 10, 0, 10, 0), 0, 5)},
		// the last Step grows, or gets less
		{timed(0, 10, 0), timed(0, 5, 3), timed(0, 7, 0, 5, 3)},
		{timed(0, 10, 0), timed(0, 5, -3), timed(0, 13, 0, 5, -3)},
		{timed(0, 10, 2), timed(77, 5, 0), timed(0, 12, 2, 5, 0)},
		{timed(0, 10, 0), timed(0, 5, 10), timed(0, 0, 0, 5, 10)}, // to 0
		// the least time of presentation is not that of the first sample
		{timed(0, 10, 0), timed(50, 5, 9, 5, -4), timed(0, 9, 0, 5, 9, 5, -4)},
		// the greatest end is not that of the last sample
		{timed(0, 10, 25, 10, 0), timed(0, 5, 0), timed(0, 10, 25, 25, 0, 5, 0)},
		// Steps of 0
		{timed(0, 0, 0), timed(5, 0, 0), timed(0, 0, 0, 0, 0)},
		// the greatest Step
		{timed(0, 1, api.MaxStep-1), timed(0, 1, 0), timed(0, api.MaxStep, api.MaxStep-1, 1, 0)},
		// from end to end
		{timed(-api.MaxTime, 1, 0), timed(api.MaxTime, 0, 0), timed(-api.MaxTime, 1, 0, 0, 0)},
		{repeated(api.MaxSamples-1, 1, 3), repeated(1, 1, 3), repeated(api.MaxSamples, 1, 3)},
	} {
		got, f := sample.Join(c.a, c.b)
		is(t, fmt.Sprint("Join ", short(c.a), short(c.b)), got, f, c.want)
	}
}

func TestJoinFaults(t *testing.T) {
	for _, c := range []struct {
		a, b []api.Sample
		want api.Fault
	}{
		{timed(0, 10, 0), timed(0, 5, 11), api.ErrClash},
		{timed(0, 10, -5), timed(0, 5, 6), api.ErrClash},
		{repeated(api.MaxSamples, 1, 0), timed(0, 5, 2), api.ErrClash}, // before that there are too many
		{timed(-api.MaxTime, 0, 0), timed(0, 0, 5), api.ErrClash},      // before that a Time is none
		{repeated(api.MaxSamples, 1, 0), timed(0, 5, 0), api.ErrLarge},
		{timed(0, 1, api.MaxStep), timed(0, 1, 0), api.ErrRange}, // the Step is too great
		{timed(api.MaxTime-10, 10, 0), timed(0, 1, 0), api.ErrRange},
		{timed(api.MaxTime-10, 10, 1), timed(0, 0, 0), api.ErrRange},
	} {
		got, f := sample.Join(c.a, c.b)
		isNot(t, fmt.Sprint("Join ", short(c.a), short(c.b)), got, f, c.want)
	}
}

func TestManyJoins(t *testing.T) {
	r := rand.New(rand.NewSource(4))
	joins := 0
	for range 3000 {
		a, b := draw(r, 6), draw(r, 6)
		what := fmt.Sprint("Join ", a, b)
		got, f := sample.Join(a, b)
		if len(a) == 0 || len(b) == 0 {
			is(t, what, got, f, slices.Concat(a, b))
			continue
		}
		by := slices.Max(ends(a)) - slices.Min(presents(b))
		want := slices.Concat(a, b)
		for i := range b {
			want[len(a)+i].Time += by
		}
		step := want[len(a)].Time - want[len(a)-1].Time
		want[len(a)-1].Step = step
		if step < 0 {
			isNot(t, what, got, f, api.ErrClash)
			continue
		}
		is(t, what, got, f, want)
		if box.CheckSamples(got) != api.OK {
			t.Error(what)
		}
		joins++
	}
	if joins < 500 {
		t.Error("few joins", joins)
	}
}
