package tick_test

import (
	"fmt"
	"math/rand"
	"slices"
	"testing"

	"headend/api"
	"headend/tick"
)

type spanCall = func(a, b []api.Span) ([]api.Span, api.Fault)

// spans makes spans of pairs of numbers.
func spans(l ...int) []api.Span {
	var out []api.Span
	for i := 0; i+1 < len(l); i += 2 {
		out = append(out, api.Span{From: l[i], To: l[i+1]})
	}
	return out
}

// row returns so many spans of a length, from a tick on, one each step.
func row(many, from, length, step int) []api.Span {
	var out []api.Span
	for i := range many {
		out = append(out, api.Span{From: from + i*step, To: from + i*step + length})
	}
	return out
}

func TestCheckSpans(t *testing.T) {
	for _, l := range [][]api.Span{
		nil, {}, spans(0, 1), spans(-5, -3, -2, 7), spans(-api.MaxTime, api.MaxTime),
		spans(-api.MaxTime, -api.MaxTime+1, api.MaxTime-1, api.MaxTime), row(api.MaxSpans, 0, 1, 2),
	} {
		if f := tick.CheckSpans(l); f != api.OK {
			t.Error("CheckSpans", l, f)
		}
	}
}

// badSpans are lists, and the faults that they have.
var badSpans = []struct {
	l    []api.Span
	want api.Fault
}{
	{row(api.MaxSpans+1, 0, 1, 2), api.ErrLarge},
	{spans(-api.MaxTime-1, 0), api.ErrRange},
	{spans(api.MaxTime+1, api.MaxTime+2), api.ErrRange},
	{spans(0, api.MaxTime+1), api.ErrRange},
	{spans(-api.MaxTime-2, -api.MaxTime-1), api.ErrRange},
	{spans(0, -api.MaxTime-1), api.ErrRange},
	{spans(0, 1, 2, api.MaxTime+1), api.ErrRange},
	{spans(0, 0), api.ErrOrder},
	{spans(1, 0), api.ErrOrder},
	{spans(0, 5, 5, 6), api.ErrOrder}, // they touch
	{spans(0, 5, 4, 6), api.ErrOrder},
	{spans(4, 6, 0, 2), api.ErrOrder},
	{spans(0, 1, 2, 3, 2, 3), api.ErrOrder},
	// the first of several faults
	{append(spans(1, 0), row(api.MaxSpans, 3, 1, 2)...), api.ErrLarge},
	{append(spans(0, api.MaxTime+1), row(api.MaxSpans, 3, 1, 2)...), api.ErrLarge},
	{spans(api.MaxTime+1, 0), api.ErrRange},
	{spans(1, 0, 0, api.MaxTime+1), api.ErrOrder},
	{spans(0, api.MaxTime+1, 1, 0), api.ErrRange},
	{spans(0, 5, 4, api.MaxTime+1), api.ErrRange},
}

func TestCheckSpansFaults(t *testing.T) {
	for i, c := range badSpans {
		if f := tick.CheckSpans(c.l); f != c.want {
			t.Error("CheckSpans of list", i, f, c.want)
		}
	}
}

func spanCalls() map[string]spanCall {
	return map[string]spanCall{"Join": tick.Join, "Meet": tick.Meet, "Without": tick.Without}
}

func TestSpanFaults(t *testing.T) {
	for i, c := range badSpans {
		n, f := tick.Length(c.l)
		isFault(t, fmt.Sprint("Length of list ", i), n, f, c.want)
		for what, call := range spanCalls() {
			l, f := call(c.l, spans(0, 1))
			isListFault(t, fmt.Sprint(what, " of list ", i), l, f, c.want)
			l, f = call(spans(0, 1), c.l)
			isListFault(t, fmt.Sprint(what, " with list ", i), l, f, c.want)
		}
	}
	for what, call := range spanCalls() { // the first list comes first
		l, f := call(spans(1, 0), spans(0, api.MaxTime+1))
		isListFault(t, what, l, f, api.ErrOrder)
		l, f = call(spans(0, api.MaxTime+1), row(api.MaxSpans+1, 0, 1, 2))
		isListFault(t, what, l, f, api.ErrRange)
		l, f = call(spans(0, api.MaxTime+1), spans(1, 0))
		isListFault(t, what, l, f, api.ErrRange)
	}
}

func TestSpanSets(t *testing.T) {
	for _, c := range []struct{ a, b, join, meet, without []api.Span }{
		{nil, nil, nil, nil, nil},
		{spans(1, 3), nil, spans(1, 3), nil, spans(1, 3)},
		{nil, spans(1, 3), spans(1, 3), nil, nil},
		{spans(0, 10), spans(4, 6, 10, 12), spans(0, 12), spans(4, 6), spans(0, 4, 6, 10)},
		{spans(0, 5), spans(5, 9), spans(0, 9), nil, spans(0, 5)},
		{spans(5, 9), spans(0, 5), spans(0, 9), nil, spans(5, 9)},
		{spans(0, 5), spans(6, 9), spans(0, 5, 6, 9), nil, spans(0, 5)},
		{spans(0, 5), spans(4, 9), spans(0, 9), spans(4, 5), spans(0, 4)},
		{spans(0, 5), spans(0, 5), spans(0, 5), spans(0, 5), nil},
		{spans(0, 5), spans(0, 3), spans(0, 5), spans(0, 3), spans(3, 5)},
		{spans(0, 5), spans(2, 5), spans(0, 5), spans(2, 5), spans(0, 2)},
		{spans(2, 3), spans(0, 9), spans(0, 9), spans(2, 3), nil},
		{spans(0, 2, 4, 6), spans(2, 4), spans(0, 6), nil, spans(0, 2, 4, 6)},
		{spans(0, 2, 3, 5, 6, 8), spans(1, 7), spans(0, 8), spans(1, 2, 3, 5, 6, 7), spans(0, 1, 7, 8)},
		{spans(-9, -7, -5, 3), spans(-8, -4, 0, 1), spans(-9, 3), spans(-8, -7, -5, -4, 0, 1), spans(-9, -8, -4, 0, 1, 3)},
		{spans(-api.MaxTime, 0), spans(0, api.MaxTime), spans(-api.MaxTime, api.MaxTime), nil, spans(-api.MaxTime, 0)},
	} {
		what := fmt.Sprint(c.a, c.b)
		l, f := tick.Join(c.a, c.b)
		isList(t, "Join "+what, l, f, c.join)
		l, f = tick.Meet(c.a, c.b)
		isList(t, "Meet "+what, l, f, c.meet)
		l, f = tick.Without(c.a, c.b)
		isList(t, "Without "+what, l, f, c.without)
	}
}

func TestTooManySpans(t *testing.T) {
	full := row(api.MaxSpans, 0, 3, 4)
	last := api.MaxSpans * 4

	l, f := tick.Join(full[1:], spans(last, last+1))
	isList(t, "Join", l, f, append(slices.Clone(full[1:]), spans(last, last+1)...))
	l, f = tick.Join(full, spans(last, last+1))
	isListFault(t, "Join", l, f, api.ErrLarge)
	l, f = tick.Join(full, row(api.MaxSpans, 2, 3, 4)) // but one span is not too many
	isList(t, "Join", l, f, spans(0, last+1))

	l, f = tick.Meet(row(500, 0, 3, 4), row(500, -2, 3, 4))
	isValue(t, "Meet", len(l), f, 999)
	l, f = tick.Meet(row(501, 0, 3, 4), row(500, -2, 3, 4))
	isValue(t, "Meet", len(l), f, 999)
	l, f = tick.Meet(row(501, 0, 3, 4), row(501, 2, 3, 4))
	isListFault(t, "Meet", l, f, api.ErrLarge)
	l, f = tick.Meet(full, full)
	isList(t, "Meet", l, f, full)

	l, f = tick.Without(spans(-1, last), full[:api.MaxSpans-1])
	isValue(t, "Without", len(l), f, api.MaxSpans)
	l, f = tick.Without(spans(-1, last), full)
	isListFault(t, "Without", l, f, api.ErrLarge)
}

func TestLength(t *testing.T) {
	for _, c := range []struct {
		l    []api.Span
		want int
	}{
		{nil, 0},
		{spans(0, 1), 1},
		{spans(-5, -3, 10, 20), 12},
		{spans(-api.MaxTime, api.MaxTime), 2 * api.MaxTime},
		{row(api.MaxSpans, 0, 3, 4), 3 * api.MaxSpans},
	} {
		n, f := tick.Length(c.l)
		isValue(t, "Length", n, f, c.want)
	}
}

// Sets of the ticks below 40, one by one.
func TestSpanSetsTickByTick(t *testing.T) {
	const most = 40
	r := rand.New(rand.NewSource(5))
	draw := func() (set [most]bool) {
		for i := range set {
			set[i] = r.Intn(3) > 0 == (i > 0 && set[i-1])
		}
		return set
	}
	toSpans := func(in func(i int) bool) []api.Span {
		var out []api.Span
		for i := range most {
			if in(i) && (i == 0 || !in(i-1)) {
				out = append(out, api.Span{From: i, To: i})
			}
			if in(i) {
				out[len(out)-1].To = i + 1
			}
		}
		return out
	}
	for range 3000 {
		x, y := draw(), draw()
		a, b := toSpans(func(i int) bool { return x[i] }), toSpans(func(i int) bool { return y[i] })
		l, f := tick.Join(a, b)
		isList(t, fmt.Sprint("Join ", a, b), l, f, toSpans(func(i int) bool { return x[i] || y[i] }))
		l, f = tick.Meet(a, b)
		isList(t, fmt.Sprint("Meet ", a, b), l, f, toSpans(func(i int) bool { return x[i] && y[i] }))
		l, f = tick.Without(a, b)
		isList(t, fmt.Sprint("Without ", a, b), l, f, toSpans(func(i int) bool { return x[i] && !y[i] }))
		many := 0
		for _, in := range x {
			if in {
				many++
			}
		}
		n, f := tick.Length(a)
		isValue(t, fmt.Sprint("Length ", a), n, f, many)
	}
}

func TestSpansLeaveArguments(t *testing.T) {
	mark := api.Span{From: -7, To: -7}
	for what, call := range spanCalls() {
		for _, other := range [][]api.Span{nil, spans(0, 4), spans(2, 3), spans(0, 20), spans(100, 101)} {
			guarded(t, what, spans(0, 4, 6, 9), mark, func(l []api.Span) []api.Span {
				out, _ := call(l, other)
				return out
			})
			guarded(t, what, spans(0, 4, 6, 9), mark, func(l []api.Span) []api.Span {
				out, _ := call(other, l)
				return out
			})
		}
	}
}

func TestAppendSpan(t *testing.T) {
	for _, c := range []struct {
		l        []api.Span
		from, to int
		want     []api.Span
	}{
		{nil, 3, 5, spans(3, 5)},
		{nil, 3, 3, nil},
		{nil, 3, 2, nil},
		{spans(0, 3), 5, 6, spans(0, 3, 5, 6)},
		{spans(0, 3), 3, 6, spans(0, 6)},
		{spans(-9, -8, 0, 3), 3, 4, spans(-9, -8, 0, 4)},
		{spans(0, 3), 3, 3, spans(0, 3)},
		{spans(0, 3), 4, 4, spans(0, 3)},
		{spans(0, 3), 5, 4, spans(0, 3)},
		{spans(0, 3), api.MaxTime - 1, api.MaxTime, spans(0, 3, api.MaxTime-1, api.MaxTime)},
	} {
		isList(t, "AppendSpan", tick.AppendSpan(c.l, c.from, c.to), api.OK, c.want)
	}
}
