package mark_test

import (
	"fmt"
	"math/rand"
	"slices"
	"testing"

	"headend/api"
	"headend/mark"
)

// event returns what Due tells of a part.
func event(place int, ad string, kind int) api.Event {
	return api.Event{Place: place, Ad: ad, Kind: kind}
}

// told returns what a session tells of a part.
func told(session string, place int, ad string, kind int) api.Event {
	return api.Event{Session: session, Place: place, Ad: ad, Kind: kind}
}

// The last ticks that the events of an advertisement need, from EventStart to EventEnd.
func TestDueTicks(t *testing.T) {
	for length, lasts := range map[int][5]int{
		1:           {0, 0, 0, 0, 0},
		2:           {0, 0, 0, 1, 1},
		3:           {0, 0, 1, 2, 2},
		4:           {0, 0, 1, 2, 3},
		5:           {0, 1, 2, 3, 4},
		6:           {0, 1, 2, 4, 5},
		7:           {0, 1, 3, 5, 6},
		8:           {0, 1, 3, 5, 7},
		20:          {0, 4, 9, 14, 19},
		api.MaxTime: {0, api.MaxTime/4 - 1, api.MaxTime/2 - 1, api.MaxTime/4*3 - 1, api.MaxTime - 1},
	} {
		l := []api.Part{spot("a", length)}
		for kind, last := range lasts {
			for _, time := range []int{last - 1, last, last + 1} {
				if time < 0 || time >= api.MaxTime {
					continue
				}
				due, f := mark.Due(l, time, time+1)
				if isDue := slices.Contains(due, event(0, "a", kind+1)); f != api.OK || isDue != (time == last) {
					t.Errorf("Due of %d ticks at %d: kind %d is due: %v (fault %d)", length, time, kind+1, isDue, f)
				}
			}
		}
		due, f := mark.Due(l, 0, length)
		is(t, fmt.Sprint("Due of all ticks ", length), due, f, []api.Event{event(0, "a", 1), event(0, "a", 2), event(0, "a", 3), event(0, "a", 4), event(0, "a", 5)})
	}
}

func TestDue(t *testing.T) {
	l := []api.Part{film(0, 40), spot("a", 1), spot("b", 4), film(60, 10), spot("a", 8)}
	atOnce := []api.Event{event(1, "a", 1), event(1, "a", 2), event(1, "a", 3), event(1, "a", 4), event(1, "a", 5)}
	second := []api.Event{event(2, "b", 1), event(2, "b", 2), event(2, "b", 3), event(2, "b", 4), event(2, "b", 5)}
	third := []api.Event{event(4, "a", 1), event(4, "a", 2), event(4, "a", 3), event(4, "a", 4), event(4, "a", 5)}
	for _, c := range []struct {
		from, to int
		want     []api.Event
	}{
		{0, 0, nil},
		{0, 40, nil},
		{40, 40, nil},
		{40, 41, atOnce},
		{41, 42, second[:2]},
		{41, 43, second[:3]},
		{42, 44, second[2:4]},
		{0, 45, slices.Concat(atOnce, second)},
		{42, 55, second[2:]},
		{45, 55, nil},
		{44, 56, []api.Event{second[4], third[0]}},
		{57, 63, third[2:]},
		{57, 62, third[2:4]},
		{63, 100, nil},
		{62, 63, third[4:]},
		{0, api.MaxTime, slices.Concat(atOnce, second, third)},
		{api.MaxTime, api.MaxTime, nil},
	} {
		due, f := mark.Due(l, c.from, c.to)
		is(t, fmt.Sprint("Due ", c.from, c.to), due, f, c.want)
	}
	due, f := mark.Due(nil, 0, api.MaxTime)
	is(t, "Due of nothing", due, f, nil)
}

// dueOf plays ticks one after another, and returns what comes.
func dueOf(l []api.Part, from, to int) []api.Event {
	var due []api.Event
	ticks := ticksOf(l)
	for _, tick := range ticks[min(from, len(ticks)):min(to, len(ticks))] {
		if tick.ad == "" {
			continue
		}
		before, now := tick.from, tick.from+1 // how many are played
		length := l[tick.part].Length
		for kind := api.EventStart; kind <= api.EventEnd; kind++ {
			if kind == api.EventStart && before == 0 || kind != api.EventStart && before*4 < length*(kind-1) && now*4 >= length*(kind-1) {
				due = append(due, event(tick.part, tick.ad, kind))
			}
		}
	}
	return due
}

func TestManyDue(t *testing.T) {
	r := rand.New(rand.NewSource(8))
	for range 4000 {
		l := drawParts(r)
		from := r.Intn(30)
		to := from + r.Intn(30)
		due, f := mark.Due(l, from, to)
		is(t, fmt.Sprint("Due ", l, from, to), due, f, dueOf(l, from, to))
	}
}

func TestDueFaults(t *testing.T) {
	type span struct {
		l        []api.Part
		from, to int
	}
	call := func(s span) api.Fault {
		l, f := mark.Due(s.l, s.from, s.to)
		isWhole(t, "Due", l, f)
		return f
	}
	inOrder(t, "Due", func() span { return span{example(), 5, 5} }, call, []wrong[span]{
		{"the timeline", api.ErrOrder, func(s *span) { s.l = wrongParts() }},
		{"from too small", api.ErrRange, func(s *span) { s.from = -1 }},
		{"from too great", api.ErrRange, func(s *span) { s.from, s.to = api.MaxTime+1, api.MaxTime+1 }},
		{"to too small", api.ErrRange, func(s *span) { s.to = s.from - 1 }},
		{"to too great", api.ErrRange, func(s *span) { s.to = api.MaxTime + 1 }},
	})
}

// counted is what Counts returns.
type counted struct {
	counts []api.Count
	idle   []int
}

func count(ad string, kinds ...int) api.Count {
	c := api.Count{Ad: ad}
	copy(c.Kinds[:], kinds)
	return c
}

func TestCounts(t *testing.T) {
	l := []api.Part{film(0, 40), spot("b", 5), spot("a", 5), film(60, 10), spot("b", 8)}
	s := func(place int, ad string, kinds ...int) []api.Event {
		var events []api.Event
		for _, kind := range kinds {
			events = append(events, told("s", place, ad, kind))
		}
		return events
	}
	for _, c := range []struct {
		what   string
		events []api.Event
		want   counted
	}{
		{"nothing", nil, counted{[]api.Count{count("a"), count("b")}, nil}},
		{"a start", s(1, "b", 1), counted{[]api.Count{count("a"), count("b", 1)}, nil}},
		{"all", s(1, "b", 1, 2, 3, 4, 5), counted{[]api.Count{count("a"), count("b", 1, 1, 1, 1, 1)}, nil}},
		{"all, in another order", s(1, "b", 4, 2, 5, 3, 1), counted{[]api.Count{count("a"), count("b", 1, 1, 1, 1, 1)}, nil}},
		{"all but the first one", s(1, "b", 2, 3, 4, 5), counted{[]api.Count{count("a"), count("b")}, nil}},
		{"all but the third one", s(1, "b", 1, 2, 4, 5), counted{[]api.Count{count("a"), count("b", 1, 1)}, nil}},
		{"all but the last one", s(1, "b", 4, 3, 2, 1), counted{[]api.Count{count("a"), count("b", 1, 1, 1, 1)}, nil}},
		{"one twice", s(1, "b", 1, 1, 2, 1, 2), counted{[]api.Count{count("a"), count("b", 1, 1)}, []int{1, 3, 4}}},
		{"one twice that does not count", s(1, "b", 2, 2), counted{[]api.Count{count("a"), count("b")}, []int{1}}},
		{"several parts", slices.Concat(s(1, "b", 1, 2), s(2, "a", 1), s(4, "b", 1)), counted{[]api.Count{count("a", 1), count("b", 2, 1)}, nil}},
		{"several sessions", []api.Event{told("s", 1, "b", 1), told("t", 1, "b", 1), told("s", 1, "b", 1), told("t", 1, "b", 2)}, counted{[]api.Count{count("a"), count("b", 2, 1)}, []int{2}}},
		{"Kinds of several sessions", []api.Event{told("s", 1, "b", 1), told("t", 1, "b", 2)}, counted{[]api.Count{count("a"), count("b", 1)}, nil}},
		{"Kinds of several parts", []api.Event{told("s", 1, "b", 1), told("s", 4, "b", 2)}, counted{[]api.Count{count("a"), count("b", 1)}, nil}},
		{"the programme", s(0, "b", 1), counted{[]api.Count{count("a"), count("b")}, []int{0}}},
		{"another Ad", s(1, "a", 1), counted{[]api.Count{count("a"), count("b")}, []int{0}}},
		{"an Ad that is nowhere", s(1, "c", 1), counted{[]api.Count{count("a"), count("b")}, []int{0}}},
		{"no part", append(s(5, "b", 1), s(-1, "b", 1)...), counted{[]api.Count{count("a"), count("b")}, []int{0, 1}}},
		{"another Ad before", slices.Concat(s(1, "a", 1), s(1, "b", 1), s(1, "a", 1), s(1, "b", 1)), counted{[]api.Count{count("a"), count("b", 1)}, []int{0, 2, 3}}},
	} {
		counts, idle, f := mark.Counts(l, c.events)
		is(t, "Counts of "+c.what, counted{counts, idle}, f, c.want)
	}
	for _, l := range [][]api.Part{nil, {film(0, 9)}} {
		counts, idle, f := mark.Counts(l, s(0, "a", 1))
		is(t, "Counts without advertisements", counted{counts, idle}, f, counted{nil, []int{0}})
	}
	names := []api.Part{spot("b", 1), spot("a-", 1), spot("a9", 1), spot("aa", 1), spot("a", 1), spot("b", 1)}
	counts, idle, f := mark.Counts(names, nil)
	is(t, "Counts by name", counted{counts, idle}, f, counted{[]api.Count{count("a"), count("a-"), count("a9"), count("aa"), count("b")}, nil})
}

// concerns says whether an event concerns something.
func concerns(l []api.Part, e api.Event) bool {
	return e.Place >= 0 && e.Place < len(l) && l[e.Place].Ad == e.Ad
}

// countsOf returns what Counts has to return, by the definitions.
func countsOf(l []api.Part, events []api.Event) counted {
	var c counted
	for i, e := range events {
		isOld := slices.Contains(events[:i], e)
		if isOld || !concerns(l, e) {
			c.idle = append(c.idle, i)
		}
	}
	for _, name := range []string{"a", "b", "c"} {
		if !slices.ContainsFunc(l, func(p api.Part) bool { return p.Ad == name }) {
			continue
		}
		next := count(name)
		for _, session := range []string{"s", "t", "u"} {
			for place := range l {
				for kind := api.EventStart; kind <= api.EventEnd && concerns(l, told(session, place, name, kind)); kind++ {
					if !slices.Contains(events, told(session, place, name, kind)) {
						break
					}
					next.Kinds[kind-1]++
				}
			}
		}
		c.counts = append(c.counts, next)
	}
	return c
}

func TestManyCounts(t *testing.T) {
	r := rand.New(rand.NewSource(9))
	for range 3000 {
		l := drawParts(r)
		var events []api.Event
		for range r.Intn(60) {
			e := told([]string{"s", "t", "u"}[r.Intn(3)], r.Intn(len(l)+2)-1, []string{"a", "b", "c"}[r.Intn(3)], 1+r.Intn(5))
			if r.Intn(4) > 0 && e.Place >= 0 && e.Place < len(l) && l[e.Place].Ad != "" {
				e.Ad = l[e.Place].Ad
			}
			events = append(events, e)
		}
		want := countsOf(l, events)
		counts, idle, f := mark.Counts(l, events)
		is(t, fmt.Sprint("Counts ", l, events), counted{counts, idle}, f, want)
		for _, c := range counts {
			if !slices.IsSortedFunc(c.Kinds[:], func(a, b int) int { return b - a }) {
				t.Error("counts do not fall", c)
			}
		}
		r.Shuffle(len(events), func(i, j int) { events[i], events[j] = events[j], events[i] })
		counts, idle, f = mark.Counts(l, events)
		is(t, fmt.Sprint("Counts in another order ", l, events), counted{counts, nil}, f, counted{want.counts, nil})
		if len(idle) != len(want.idle) {
			t.Error("Counts in another order", events, idle, want.idle)
		}
	}
}

// What Due tells of a whole timeline is counted once for each session.
func TestDueIsCounted(t *testing.T) {
	r := rand.New(rand.NewSource(10))
	for range 500 {
		l := drawParts(r)
		whole, f := mark.Due(l, 0, api.MaxTime)
		isFault(t, "Due", f, api.OK)
		var events []api.Event
		for _, session := range []string{"s", "t"} {
			for _, e := range whole {
				e.Session = session
				events = append(events, e)
			}
		}
		counts, idle, f := mark.Counts(l, events)
		if f != api.OK || len(idle) > 0 {
			t.Error("Counts", l, idle, f)
		}
		for _, c := range counts {
			n := 0
			for _, p := range l {
				if p.Ad == c.Ad {
					n += 2
				}
			}
			if c != count(c.Ad, n, n, n, n, n) {
				t.Error("Counts", l, c, n)
			}
		}
	}
}

// counting is what Counts is given.
type counting struct {
	l      []api.Part
	events []api.Event
}

func TestCountsFaults(t *testing.T) {
	call := func(c counting) api.Fault {
		counts, idle, f := mark.Counts(c.l, c.events)
		isWhole(t, "Counts", counted{counts, idle}, f)
		return f
	}
	good := func() counting {
		return counting{example(), []api.Event{told("s", 1, "a", 1), told("t", 9, "zz", 5), told(longName, 0, longName, 3)}}
	}
	inOrder(t, "Counts", good, call, []wrong[counting]{
		{"the timeline", api.ErrOrder, func(c *counting) { c.l = wrongParts() }},
		{"too many", api.ErrLarge, func(c *counting) { c.events = append(c.events, make([]api.Event, api.MaxEvents)...) }},
		{"the first Kind", api.ErrKind, func(c *counting) { c.events[0].Kind = 6 }},
		{"the second Session", api.ErrName, func(c *counting) { c.events[1].Session = "" }},
		{"the second Ad", api.ErrName, func(c *counting) { c.events[1].Ad = "" }},
		{"the second Kind", api.ErrKind, func(c *counting) { c.events[1].Kind = 0 }},
		{"the third Session", api.ErrName, func(c *counting) { c.events[2].Session = "S" }},
	})
	for _, name := range noNames {
		isFault(t, fmt.Sprintf("Counts with the Session %q", name), call(counting{example(), []api.Event{told(name, 1, "a", 1)}}), api.ErrName)
		isFault(t, fmt.Sprintf("Counts with the Ad %q", name), call(counting{example(), []api.Event{told("s", 0, name, 1)}}), api.ErrName)
	}
	for _, n := range numbers {
		want := api.ErrKind
		if 1 <= n && n <= 5 {
			want = api.OK
		}
		isFault(t, fmt.Sprint("Counts with the Kind ", n), call(counting{example(), []api.Event{told("s", 1, "a", n)}}), want)
		isFault(t, fmt.Sprint("Counts with the Place ", n), call(counting{example(), []api.Event{told("s", n, "a", 1)}}), api.OK)
	}
	many := slices.Repeat([]api.Event{told("s", 1, "a", 1)}, api.MaxEvents+1)
	isFault(t, "Counts with as many as can be", call(counting{example(), many[1:]}), api.OK)
	isFault(t, "Counts with one too many", call(counting{example(), many}), api.ErrLarge)
}
