package sample_test

import (
	"fmt"
	"math/rand"
	"testing"

	"headend/api"
	"headend/sample"
)

// group returns the document's example, with Keys.
func group(keys ...int) []api.Sample {
	return keyed(timed(-10, 10, 10, 10, 30, 10, 0, 10, 0), keys...)
}

func TestGroups(t *testing.T) {
	for _, c := range []struct {
		l    []api.Sample
		want []api.Group
	}{
		{nil, nil},
		{group(0), []api.Group{{From: 0, To: 4, Key: true, Closed: true, Begin: 0, End: 40}}},
		{group(), []api.Group{{From: 0, To: 4, Begin: 0, End: 40}}}, // not closed without a Key
		{keyed(timed(3, 4, 5), 0), []api.Group{{From: 0, To: 1, Key: true, Closed: true, Begin: 8, End: 12}}},
		{timed(3, 0, 5), []api.Group{{From: 0, To: 1, Begin: 8, End: 8}}},
		// the first group has no Key, and ends where a Key is
		{keyed(timed(0, 1, 0, 1, 0, 1, 0), 1), []api.Group{{From: 0, To: 1, Begin: 0, End: 1}, {From: 1, To: 3, Key: true, Closed: true, Begin: 1, End: 3}}},
		// each one is a Key
		{keyed(timed(0, 1, 0, 1, 0), 0, 1), []api.Group{{From: 0, To: 1, Key: true, Closed: true, Begin: 0, End: 1}, {From: 1, To: 2, Key: true, Closed: true, Begin: 1, End: 2}}},
		// another sample of the group is presented before its first one
		{keyed(timed(0, 1, 5, 1, 0, 1, 9), 0), []api.Group{{From: 0, To: 3, Key: true, Begin: 1, End: 12}}},
		// another sample of the group is presented with its first one
		{keyed(timed(0, 1, 5, 1, 4, 1, 9), 0), []api.Group{{From: 0, To: 3, Key: true, Begin: 5, End: 12}}},
		// a sample of the group before is presented after the first one, or with it, or just before it
		{keyed(timed(0, 1, 3, 1, 0, 1, 5), 0, 1), []api.Group{{From: 0, To: 1, Key: true, Closed: true, Begin: 3, End: 7}, {From: 1, To: 3, Key: true, Begin: 1, End: 8}}},
		{keyed(timed(0, 1, 1, 1, 0, 1, 5), 0, 1), []api.Group{{From: 0, To: 1, Key: true, Closed: true, Begin: 1, End: 7}, {From: 1, To: 3, Key: true, Begin: 1, End: 8}}},
		{keyed(timed(0, 1, 1, 1, 1, 1, 5), 0, 1), []api.Group{{From: 0, To: 1, Key: true, Closed: true, Begin: 1, End: 2}, {From: 1, To: 3, Key: true, Closed: true, Begin: 2, End: 8}}},
		// not the group just before, but an earlier one
		{keyed(timed(0, 1, 9, 1, 0, 1, 0), 0, 1, 2), []api.Group{
			{From: 0, To: 1, Key: true, Closed: true, Begin: 9, End: 10}, {From: 1, To: 2, Key: true, Begin: 1, End: 2}, {From: 2, To: 3, Key: true, Begin: 2, End: 9},
		}},
		// the end is that of the sample presented last, at the next time of another group
		{keyed(timed(0, 10, 0, 10, 0, 10, 10), 0, 2), []api.Group{{From: 0, To: 2, Key: true, Closed: true, Begin: 0, End: 30}, {From: 2, To: 3, Key: true, Closed: true, Begin: 30, End: 40}}},
	} {
		got, f := sample.Groups(c.l)
		is(t, fmt.Sprint("Groups ", c.l), got, f, c.want)
	}
}

// closed says whether a group is closed, sample by sample.
func closed(l []api.Sample, from, to int) bool {
	at := presents(l)
	for i := range to {
		if i < from && at[i] >= at[from] || i > from && at[i] <= at[from] {
			return false
		}
	}
	return l[from].Key
}

func TestManyGroups(t *testing.T) {
	r := rand.New(rand.NewSource(2))
	for range 3000 {
		l := draw(r, 10)
		at, until := presents(l), ends(l)
		var want []api.Group
		for i := range l {
			if i == 0 || l[i].Key {
				want = append(want, api.Group{From: i, Key: l[i].Key, Begin: at[i], End: until[i]})
			}
			g := &want[len(want)-1]
			g.To, g.Begin, g.End = i+1, min(g.Begin, at[i]), max(g.End, until[i])
		}
		for i, g := range want {
			want[i].Closed = closed(l, g.From, g.To)
		}
		got, f := sample.Groups(l)
		is(t, fmt.Sprint("Groups ", l), got, f, want)
	}
}

func TestMostGroups(t *testing.T) {
	l := repeated(api.MaxSamples, 1, 0)
	for i := range l {
		l[i].Key = true
	}
	g, f := sample.Groups(l)
	if f != api.OK || len(g) != len(l) || g[len(l)-1] != (api.Group{From: len(l) - 1, To: len(l), Key: true, Closed: true, Begin: len(l) - 1, End: len(l)}) {
		t.Error("Groups", len(g), f)
	}
}

func TestNeeded(t *testing.T) {
	line := keyed(timed(0, 10, 0, 10, 0, 10, 0, 10, 0, 10, 0), 0, 3)
	for _, c := range []struct {
		l        []api.Sample
		from, to int
		want     api.Kept
	}{
		{group(0), 15, 25, api.Kept{From: 0, To: 4, Skip: 15}},
		{group(0), 0, 1, api.Kept{From: 0, To: 1}},
		{group(0), 9, 10, api.Kept{From: 0, To: 1, Skip: 9}},
		{group(0), 10, 20, api.Kept{From: 0, To: 3, Skip: 10}}, // with the sample that is decoded in between
		{group(0), 30, 40, api.Kept{From: 0, To: 2, Skip: 30}},
		{group(0), 39, 100, api.Kept{From: 0, To: 2, Skip: 39}},
		{group(), 15, 16, api.Kept{From: 0, To: 3, Skip: 15}}, // no Key: from the first sample on
		{group(2), 15, 16, api.Kept{From: 2, To: 3, Skip: 5}}, // the least time of just these
		{group(1), 15, 16, api.Kept{From: 1, To: 3, Skip: 5}}, // of all of these, not of the Key
		{group(3), 15, 16, api.Kept{From: 0, To: 3, Skip: 15}},
		{group(0, 2, 3), 12, 31, api.Kept{From: 0, To: 4, Skip: 12}}, // the Key at or before the first one, which is number 1
		{line, 0, 10, api.Kept{From: 0, To: 1}},
		{line, 9, 11, api.Kept{From: 0, To: 2, Skip: 9}},
		{line, 25, 35, api.Kept{From: 0, To: 4, Skip: 25}},
		{line, 30, 40, api.Kept{From: 3, To: 4}},
		{line, 45, 46, api.Kept{From: 3, To: 5, Skip: 15}},
		{line, -100, 100, api.Kept{From: 0, To: 5}}, // the span begins before all
		{line, -100, 1, api.Kept{From: 0, To: 1}},
		{line, -api.MaxTime, api.MaxTime, api.Kept{From: 0, To: 5}},
		{keyed(timed(0, 5, 0, 0, 0, 5, 0), 0, 2), 4, 6, api.Kept{From: 0, To: 3, Skip: 4}}, // also of several at one time
		{keyed(timed(0, 5, 0, 0, 0, 5, 0), 0, 2), 5, 6, api.Kept{From: 2, To: 3}},
	} {
		got, f := sample.Needed(c.l, api.Span{From: c.from, To: c.to})
		is(t, fmt.Sprint("Needed ", c.l, c.from, " ", c.to), got, f, c.want)
	}
}

func TestNeededFaults(t *testing.T) {
	for _, c := range []struct {
		l        []api.Sample
		from, to int
		want     api.Fault
	}{
		{group(0), 5, 5, api.ErrOrder},
		{group(0), 5, 4, api.ErrOrder},
		{group(0), api.MaxTime + 1, api.MaxTime + 1, api.ErrOrder}, // the order comes before the range
		{group(0), api.MaxTime + 2, api.MaxTime + 1, api.ErrOrder},
		{nil, 5, 5, api.ErrOrder},
		{group(0), -api.MaxTime - 1, 5, api.ErrRange},
		{group(0), 5, api.MaxTime + 1, api.ErrRange},
		{nil, 5, api.MaxTime + 1, api.ErrRange},
		{nil, 0, 1, api.ErrNone},
		{group(0), 40, 41, api.ErrNone},
		{group(0), -5, 0, api.ErrNone},
		{timed(5, 0, 0), 0, 10, api.ErrNone}, // a presentation without a tick
		{timed(5, 0, 0), 5, 6, api.ErrNone},
	} {
		got, f := sample.Needed(c.l, api.Span{From: c.from, To: c.to})
		isNot(t, fmt.Sprint("Needed ", c.l, c.from, " ", c.to), got, f, c.want)
	}
}

// Small spans, tick by tick.
func TestManyNeeded(t *testing.T) {
	r := rand.New(rand.NewSource(3))
	for range 5000 {
		l := draw(r, 8)
		s := api.Span{From: r.Intn(60) - 20}
		s.To = s.From + 1 + r.Intn(15)
		at, until := presents(l), ends(l)
		first, last := -1, -1
		for i := range l {
			for tick := s.From; tick < s.To; tick++ {
				if at[i] <= tick && tick < until[i] {
					last = i
				}
			}
			if first < 0 && last == i {
				first = i
			}
		}
		got, f := sample.Needed(l, s)
		what := fmt.Sprint("Needed ", l, s)
		if first < 0 {
			isNot(t, what, got, f, api.ErrNone)
			continue
		}
		want := api.Kept{To: last + 1}
		for i := range first + 1 {
			if l[i].Key {
				want.From = i
			}
		}
		for i := want.From; i < want.To; i++ {
			want.Skip = max(want.Skip, s.From-at[i])
		}
		is(t, what, got, f, want)
		part, f := sample.Cut(l, got)
		is(t, "Cut of "+what, part, f, l[want.From:want.To])
	}
}

func TestCut(t *testing.T) {
	l := group(0, 2)
	for from := range 5 {
		for to := from; to <= 4; to++ {
			got, f := sample.Cut(l, api.Kept{From: from, To: to, Skip: -99}) // Skip does not matter
			is(t, fmt.Sprint("Cut ", from, to), got, f, l[from:to])
		}
	}
	none, f := sample.Cut(nil, api.Kept{})
	is(t, "Cut of none", none, f, nil)
	for _, k := range []api.Kept{{From: -1, To: 2}, {From: -1, To: -1}, {From: 0, To: -1}, {From: 3, To: 2}, {From: 0, To: 5}, {From: 5, To: 5}} {
		got, f := sample.Cut(l, k)
		isNot(t, fmt.Sprint("Cut ", k), got, f, api.ErrRange)
	}
	none, f = sample.Cut(nil, api.Kept{To: 1})
	isNot(t, "Cut of none", none, f, api.ErrRange)
}
