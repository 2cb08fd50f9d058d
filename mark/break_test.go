package mark_test

import (
	"fmt"
	"math/rand"
	"slices"
	"testing"

	"headend/api"
	"headend/mark"
)

func out(event, time int) api.Cue { return api.Cue{Kind: api.CueOut, Event: event, Time: time} }

func outFor(event, time, length int) api.Cue {
	return api.Cue{Kind: api.CueOut, Event: event, Time: time, Length: length, Auto: true}
}

func outNow(event int) api.Cue { return api.Cue{Kind: api.CueOut, Event: event, Now: true} }

func in(event, time int) api.Cue { return api.Cue{Kind: api.CueIn, Event: event, Time: time} }

func inNow(event int) api.Cue { return api.Cue{Kind: api.CueIn, Event: event, Now: true} }

func cancel(event int) api.Cue { return api.Cue{Kind: api.CueCancel, Event: event} }

// heardAt returns cues that all come at one time.
func heardAt(at int, cues ...api.Cue) []api.Heard {
	var l []api.Heard
	for _, c := range cues {
		l = append(l, api.Heard{At: at, Cue: c})
	}
	return l
}

// made is what Breaks returns.
type made struct {
	breaks []api.Break
	idle   []int
}

func breakOf(event, begin, end int) api.Break {
	return api.Break{Event: event, Begin: begin, End: end}
}

func TestBreaks(t *testing.T) {
	for _, c := range []struct {
		what string
		l    []api.Heard
		want made
	}{
		{"nothing", nil, made{}},
		{"CueNull", heardAt(5, api.Cue{}, api.Cue{}), made{nil, []int{0, 1}}},
		{"an open break", heardAt(0, out(1, 50)), made{[]api.Break{breakOf(1, 50, -1)}, nil}},
		{"an open break that tells a Length", heardAt(0, api.Cue{Kind: api.CueOut, Event: 1, Time: 50, Length: 7}), made{[]api.Break{breakOf(1, 50, -1)}, nil}},
		{"a break that ends by itself", heardAt(0, outFor(1, 50, 7)), made{[]api.Break{breakOf(1, 50, 57)}, nil}},
		{"a break that begins at once", heardAt(30, outNow(1)), made{[]api.Break{breakOf(1, 30, -1)}, nil}},
		{"a break that begins at once, and ends by itself", heardAt(30, api.Cue{Kind: api.CueOut, Event: 1, Now: true, Length: 7, Auto: true}), made{[]api.Break{breakOf(1, 30, 37)}, nil}},
		{"a break that has begun", heardAt(30, out(1, 10)), made{[]api.Break{breakOf(1, 10, -1)}, nil}},
		{"the same twice", heardAt(0, out(1, 50), out(1, 50)), made{[]api.Break{breakOf(1, 50, -1)}, []int{1}}},
		{"the same Event later", heardAt(0, outFor(1, 50, 7), out(1, 90)), made{[]api.Break{breakOf(1, 50, 57)}, []int{1}}},
		{"another one within an open break", heardAt(0, out(1, 50), out(2, 60)), made{[]api.Break{breakOf(1, 50, -1)}, []int{1}}},
		{"another one with the Begin of an open break", heardAt(0, out(1, 50), out(2, 50)), made{[]api.Break{breakOf(1, 50, -1)}, []int{1}}},
		{"another one before an open break", heardAt(0, out(1, 50), outFor(2, 40, 5)), made{[]api.Break{breakOf(1, 50, -1)}, []int{1}}},
		{"another one within a break", heardAt(0, outFor(1, 50, 7), out(2, 56)), made{[]api.Break{breakOf(1, 50, 57)}, []int{1}}},
		{"another one with the Begin of a break", heardAt(0, outFor(1, 50, 7), out(2, 50)), made{[]api.Break{breakOf(1, 50, 57)}, []int{1}}},
		{"another one before a break", heardAt(0, outFor(1, 50, 7), outFor(2, 10, 5)), made{[]api.Break{breakOf(1, 50, 57)}, []int{1}}},
		{"breaks that touch", heardAt(0, outFor(1, 50, 7), outFor(2, 57, 3), out(0, 60)), made{[]api.Break{breakOf(1, 50, 57), breakOf(2, 57, 60), breakOf(0, 60, -1)}, nil}},
		{"an end", heardAt(0, out(1, 50), in(1, 70)), made{[]api.Break{breakOf(1, 50, 70)}, nil}},
		{"an end one tick after the Begin", heardAt(0, out(1, 50), in(1, 51)), made{[]api.Break{breakOf(1, 50, 51)}, nil}},
		{"an end at the Begin", heardAt(0, out(1, 50), in(1, 50), out(1, 60), cancel(1)), made{nil, []int{2, 3}}},
		{"an end before the Begin", heardAt(0, out(1, 50), in(1, 49), out(1, 60), cancel(1)), made{nil, []int{2, 3}}},
		{"an end at the Begin of a break that ends by itself", heardAt(0, outFor(1, 50, 7), in(1, 50)), made{nil, nil}},
		{"an end within a break", heardAt(0, outFor(1, 50, 7), in(1, 52)), made{[]api.Break{breakOf(1, 50, 52)}, nil}},
		{"an end just before the End", heardAt(0, outFor(1, 50, 7), in(1, 56)), made{[]api.Break{breakOf(1, 50, 56)}, nil}},
		{"an end at the End", heardAt(0, outFor(1, 50, 7), in(1, 57)), made{[]api.Break{breakOf(1, 50, 57)}, []int{1}}},
		{"an end after the End", heardAt(0, outFor(1, 50, 7), in(1, 58)), made{[]api.Break{breakOf(1, 50, 57)}, []int{1}}},
		{"an end twice", heardAt(0, out(1, 50), in(1, 70), in(1, 70)), made{[]api.Break{breakOf(1, 50, 70)}, []int{2}}},
		{"an earlier end, then a later one", heardAt(0, out(1, 50), in(1, 70), in(1, 60), in(1, 65)), made{[]api.Break{breakOf(1, 50, 60)}, []int{3}}},
		{"an end of no break", heardAt(0, in(1, 70), out(1, 50)), made{[]api.Break{breakOf(1, 50, -1)}, []int{0}}},
		{"an end of another break", heardAt(0, out(1, 50), in(2, 70)), made{[]api.Break{breakOf(1, 50, -1)}, []int{1}}},
		{"an end at once", slices.Concat(heardAt(0, out(1, 50)), heardAt(70, inNow(1)), heardAt(80, inNow(1))), made{[]api.Break{breakOf(1, 50, 70)}, []int{2}}},
		{"an end at once before the Begin", slices.Concat(heardAt(0, out(1, 50)), heardAt(40, inNow(1))), made{nil, nil}},
		{"a break after an end that came early", heardAt(0, outFor(1, 50, 7), in(1, 52), out(2, 52)), made{[]api.Break{breakOf(1, 50, 52), breakOf(2, 52, -1)}, nil}},
		{"a break where one has gone", heardAt(0, out(1, 50), in(1, 50), outFor(2, 45, 10)), made{[]api.Break{breakOf(2, 45, 55)}, nil}},
		{"cancelled", heardAt(49, out(1, 50), cancel(1)), made{nil, nil}},
		{"cancelled at the Begin", heardAt(50, out(1, 50), cancel(1)), made{[]api.Break{breakOf(1, 50, -1)}, []int{1}}},
		{"cancelled after the Begin", heardAt(51, outFor(1, 50, 7), cancel(1)), made{[]api.Break{breakOf(1, 50, 57)}, []int{1}}},
		{"cancelled after the End", heardAt(99, outFor(1, 50, 7), cancel(1)), made{[]api.Break{breakOf(1, 50, 57)}, []int{1}}},
		{"cancelled before it is there", heardAt(0, cancel(1), out(1, 50), in(1, 60), out(2, 50)), made{[]api.Break{breakOf(2, 50, -1)}, []int{1, 2}}},
		{"cancelled twice", heardAt(0, cancel(1), cancel(1), out(2, 50), cancel(2), cancel(2)), made{nil, []int{1, 4}}},
		{"cancelled after it has gone", heardAt(0, out(1, 50), in(1, 40), cancel(1), out(2, 50)), made{[]api.Break{breakOf(2, 50, -1)}, []int{2}}},
		{"a break where one was cancelled", heardAt(0, outFor(1, 50, 7), cancel(1), outFor(2, 53, 7)), made{[]api.Break{breakOf(2, 53, 60)}, nil}},
		{"one of several cancelled", heardAt(0, outFor(1, 50, 7), outFor(2, 60, 7), outFor(3, 70, 7), cancel(2), out(4, 65), out(5, 77)), made{[]api.Break{breakOf(1, 50, 57), breakOf(3, 70, 77), breakOf(5, 77, -1)}, []int{4}}},
		{"CueNull beside Event 0", heardAt(0, out(0, 50), api.Cue{}, in(0, 60)), made{[]api.Break{breakOf(0, 50, 60)}, []int{1}}},
		{"the greatest Event", heardAt(0, out(api.MaxEventId, 0)), made{[]api.Break{breakOf(api.MaxEventId, 0, -1)}, nil}},
	} {
		breaks, idle, f := mark.Breaks(c.l)
		is(t, "Breaks of "+c.what, made{breaks, idle}, f, c.want)
	}
}

// nearest returns the whole time that is congruent to a Time, and nearest to another one.
func nearest(at, time int) int {
	best := time + (at/api.Wrapped-3)*api.Wrapped
	for next := best; next <= at+2*api.Wrapped; next += api.Wrapped {
		if max(next-at, at-next) < max(best-at, at-best) {
			best = next
		}
	}
	return best
}

func TestTimesOfCues(t *testing.T) {
	const half = api.Wrapped / 2
	for _, c := range []struct{ at, time, want int }{
		{0, 0, 0},
		{0, half - 1, half - 1},
		{api.Wrapped, 0, api.Wrapped},
		{api.Wrapped - 5, 5, api.Wrapped + 5},               // forwards
		{api.Wrapped + 5, api.Wrapped - 5, api.Wrapped - 5}, // backwards
		{half, 0, 0},                                        // just between
		{half + 1, 0, api.Wrapped},                          // nearer to the next one
		{half - 1, 0, 0},
		{half + 7, 7, 7},                                        // just between
		{3 * half, 0, api.Wrapped},                              // just between
		{5*api.Wrapped + 1, half + 1, 4*api.Wrapped + half + 1}, // just between
		{5*api.Wrapped + 1, half, 5*api.Wrapped + half},
		{5*api.Wrapped + 1, half + 2, 4*api.Wrapped + half + 2},
		{-1, 1, 1},
		{-half + 4, 3, 3},
		{api.MaxTime, api.MaxTime % api.Wrapped, api.MaxTime},
		{api.MaxTime, (api.MaxTime - half) % api.Wrapped, api.MaxTime - half},
		{api.MaxTime, api.MaxTime%api.Wrapped - 1, api.MaxTime - 1},
	} {
		if n := nearest(c.at, c.time); n != c.want {
			t.Error("nearest", c, n)
		}
		what := fmt.Sprint("Breaks with ", c)
		breaks, idle, f := mark.Breaks(heardAt(c.at, out(1, c.time)))
		is(t, what, made{breaks, idle}, f, made{[]api.Break{breakOf(1, c.want, -1)}, nil})
	}
	r := rand.New(rand.NewSource(3))
	for range 5000 {
		at := half + r.Intn(api.MaxTime-api.Wrapped)
		time := r.Intn(api.Wrapped)
		if r.Intn(4) == 0 {
			time = (at + half + r.Intn(5) - 2) % api.Wrapped
		}
		breaks, idle, f := mark.Breaks(heardAt(at, out(1, time)))
		is(t, fmt.Sprint("Breaks with ", at, time), made{breaks, idle}, f, made{[]api.Break{breakOf(1, nearest(at, time), -1)}, nil})
	}
}

// course is what is known of an Event.
type course struct {
	begin, end      int
	isOpen, hasGone bool
}

func (c course) isEnded() bool { return !c.isOpen && !c.hasGone }

// story is what is known of all Events.
type story map[int]course

// hear takes a cue as the document says it, and says whether it did something.
func (s story) hear(h api.Heard) bool {
	event := h.Cue.Event
	time := h.At
	if !h.Cue.Now {
		time = nearest(h.At, h.Cue.Time)
	}
	now, is := s[event]
	switch {
	case h.Cue.Kind == api.CueOut && !is && s.isFree(time):
		s[event] = course{begin: time, end: time + h.Cue.Length, isOpen: !h.Cue.Auto}
	case h.Cue.Kind == api.CueIn && is && !now.hasGone && (now.isOpen || now.end > time):
		s[event] = course{begin: now.begin, end: time, hasGone: time <= now.begin}
	case h.Cue.Kind == api.CueCancel && (!is || !now.hasGone && now.begin > h.At):
		s[event] = course{hasGone: true}
	default:
		return false
	}
	return true
}

// isFree says whether a break can begin at a time.
func (s story) isFree(time int) bool {
	for _, c := range s {
		if c.isOpen || c.isEnded() && (time < c.begin || time < c.end) {
			return false
		}
	}
	return true
}

// breaksOf returns what Breaks has to return for cues that are right.
func breaksOf(l []api.Heard) (made, api.Fault) {
	s := story{}
	var m made
	for i, h := range l {
		if !s.hear(h) {
			m.idle = append(m.idle, i)
		}
	}
	isTime := func(n int) bool { return 0 <= n && n <= api.MaxTime }
	for event, c := range s {
		switch {
		case c.hasGone:
			continue
		case !isTime(c.begin) || !c.isOpen && !isTime(c.end):
			return made{}, api.ErrRange
		case c.isOpen:
			c.end = -1
		}
		m.breaks = append(m.breaks, breakOf(event, c.begin, c.end))
	}
	slices.SortFunc(m.breaks, func(a, b api.Break) int { return a.Begin - b.Begin })
	return m, api.OK
}

// drawHeard returns cues that come around a time.
func drawHeard(r *rand.Rand, around int) []api.Heard {
	var l []api.Heard
	at := around
	for range r.Intn(14) {
		at = min(at+r.Intn(8), api.MaxTime)
		c := []api.Cue{{}, out(0, 0), outFor(0, 0, 1+r.Intn(12)), outNow(0), in(0, 0), in(0, 0), inNow(0), cancel(0)}[r.Intn(8)]
		if c.Kind != api.CueNull {
			c.Event = r.Intn(4)
		}
		if (c.Kind == api.CueOut || c.Kind == api.CueIn) && !c.Now {
			c.Time = wrapped(at + r.Intn(30) - 8)
		}
		l = append(l, api.Heard{At: at, Cue: c})
		if r.Intn(5) == 0 { // twice
			l = append(l, l[len(l)-1])
		}
	}
	return l
}

func TestManyBreaks(t *testing.T) {
	r := rand.New(rand.NewSource(4))
	faults := map[api.Fault]int{}
	for _, around := range []int{-25, -10, 0, 100, api.Wrapped / 2, api.Wrapped - 20, 7*api.Wrapped - 20, api.MaxTime - 40, api.MaxTime - 90} {
		for range 4000 {
			l := drawHeard(r, around)
			breaks, idle, f := mark.Breaks(l)
			want, fault := breaksOf(l)
			faults[fault]++
			if fault != api.OK {
				isNot(t, fmt.Sprint("Breaks ", l), made{breaks, idle}, f, fault)
				continue
			}
			is(t, fmt.Sprint("Breaks ", l), made{breaks, idle}, f, want)
			isFault(t, "CheckBreaks of Breaks", mark.CheckBreaks(breaks), api.OK)
			for i := range len(l) - 1 {
				if l[i] == l[i+1] && !slices.Contains(idle, i+1) {
					t.Error("a cue does something the second time", l, i+1)
				}
			}
		}
	}
	if faults[api.OK] < 10000 || faults[api.ErrRange] < 1000 {
		t.Error("too few", faults)
	}
}

// Times below 0 are as good as others while cues come.
func TestTimesBelowZero(t *testing.T) {
	for _, c := range []struct {
		what string
		l    []api.Heard
		want made
	}{
		{"an End of -1 is no open break", heardAt(-100, outFor(1, wrapped(-51), 50), out(2, 5), cancel(1)), made{[]api.Break{breakOf(2, 5, -1)}, nil}},
		{"a break that touches an End of -1", heardAt(-100, outFor(1, wrapped(-51), 50), outFor(2, wrapped(-1), 2), in(2, wrapped(-1)), cancel(1)), made{nil, nil}},
		{"an end at -1", heardAt(-100, out(1, wrapped(-51)), in(1, wrapped(-1)), in(1, 7), out(2, 5), cancel(1)), made{[]api.Break{breakOf(2, 5, -1)}, []int{2}}},
		{"a Begin of -1 that goes", heardAt(-9, out(1, wrapped(-1)), cancel(1)), made{nil, nil}},
	} {
		breaks, idle, f := mark.Breaks(c.l)
		is(t, "Breaks: "+c.what, made{breaks, idle}, f, c.want)
	}
}

// wrapped returns what a cue says of a time.
func wrapped(time int) int { return (time + api.MaxTime/api.Wrapped*api.Wrapped) % api.Wrapped }

// filled returns n breaks of one tick that touch, begun at a time.
func filled(n, begin int) []api.Heard {
	var l []api.Heard
	for i := range n {
		l = append(l, api.Heard{At: begin, Cue: outFor(i, wrapped(begin+i), 1)})
	}
	return l
}

func TestBreaksFaults(t *testing.T) {
	last := api.MaxTime % api.Wrapped
	for _, c := range []struct {
		what string
		l    []api.Heard
		want api.Fault
	}{
		{"too many cues", heardAt(0, make([]api.Cue, api.MaxCues+1)...), api.ErrLarge},
		{"too many cues, and a wrong one", heardAt(api.MaxTime+1, make([]api.Cue, api.MaxCues+1)...), api.ErrLarge},
		{"At too small", heardAt(-api.MaxTime-1, api.Cue{}), api.ErrRange},
		{"At too great", heardAt(api.MaxTime+1, api.Cue{}), api.ErrRange},
		{"a Begin of -1", heardAt(0, out(1, api.Wrapped-1)), api.ErrRange},
		{"a Begin of -1 of a break that has ended", heardAt(0, outFor(1, api.Wrapped-1, 9)), api.ErrRange},
		{"a Begin of -1 at once", heardAt(-1, outNow(1)), api.ErrRange},
		{"the least At", heardAt(-api.MaxTime, outNow(1)), api.ErrRange},
		{"a Begin too great", heardAt(api.MaxTime, out(1, last+1)), api.ErrRange},
		{"an End too great", heardAt(api.MaxTime, outFor(1, last, 1)), api.ErrRange},
		{"an End too great of the second break", heardAt(api.MaxTime, outFor(1, last-1, 1), outFor(2, last, 1)), api.ErrRange},
		{"too many breaks", filled(api.MaxBreaks+1, 50), api.ErrLarge},
		{"too many breaks, one with a wrong Begin", filled(api.MaxBreaks+1, -1), api.ErrRange},
		{"too many breaks, the last one with a wrong End", filled(api.MaxBreaks+1, api.MaxTime-api.MaxBreaks), api.ErrRange},
	} {
		breaks, idle, f := mark.Breaks(c.l)
		isNot(t, "Breaks with "+c.what, made{breaks, idle}, f, c.want)
	}
	breaks, idle, f := mark.Breaks(filled(api.MaxBreaks, api.MaxTime-api.MaxBreaks))
	if f != api.OK || len(breaks) != api.MaxBreaks || len(idle) != 0 || breaks[api.MaxBreaks-1].End != api.MaxTime {
		t.Error("Breaks with as many breaks as can be", len(breaks), idle, f)
	}
	over := append(filled(api.MaxBreaks+1, 50), api.Heard{At: 50, Cue: cancel(9)})
	if breaks, idle, f := mark.Breaks(over); f != api.OK || len(breaks) != api.MaxBreaks || len(idle) != 0 {
		t.Error("Breaks with too many breaks, of which one goes", len(breaks), idle, f)
	}
	breaks, idle, f = mark.Breaks(heardAt(0, make([]api.Cue, api.MaxCues)...))
	if f != api.OK || len(breaks) != 0 || len(idle) != api.MaxCues {
		t.Error("Breaks with as many cues as can be", breaks, len(idle), f)
	}
	breaks, idle, f = mark.Breaks(heardAt(api.MaxTime, outFor(1, last-1, 1), out(2, last)))
	is(t, "Breaks at the end of time", made{breaks, idle}, f, made{[]api.Break{breakOf(1, api.MaxTime-1, api.MaxTime), breakOf(2, api.MaxTime, -1)}, nil})
}

func TestBreaksOrder(t *testing.T) {
	good := func() []api.Heard {
		return []api.Heard{{At: -7, Cue: out(1, 5)}, {At: 0, Cue: inNow(2)}, {At: 6, Cue: inNow(1)}}
	}
	call := func(l []api.Heard) api.Fault {
		breaks, idle, f := mark.Breaks(l)
		isWhole(t, "Breaks", made{breaks, idle}, f)
		return f
	}
	inOrder(t, "Breaks", good, call, []wrong[[]api.Heard]{
		{"the At of the first one", api.ErrRange, func(l *[]api.Heard) { (*l)[0].At = api.MaxTime + 1 }},
		{"the first one", api.ErrForm, func(l *[]api.Heard) { (*l)[0].Cue.Kind = api.CueCancel }},
		{"the At of the second one", api.ErrRange, func(l *[]api.Heard) { (*l)[1].At = -api.MaxTime - 1 }},
		{"the second one comes before the first one", api.ErrOrder, func(l *[]api.Heard) { (*l)[1].At = -8 }},
		{"the second one", api.ErrKind, func(l *[]api.Heard) { (*l)[1].Cue.Kind = 4 }},
		{"the third one comes before the second one", api.ErrOrder, func(l *[]api.Heard) { (*l)[2].At = -8 }},
		{"the third one", api.ErrRange, func(l *[]api.Heard) { (*l)[2].Cue.Event = -1 }},
		{"a Begin", api.ErrRange, func(l *[]api.Heard) { (*l)[0].Cue.Time = api.Wrapped - 1 }},
	})
}

func TestCheckBreaks(t *testing.T) {
	touching := make([]int, 0, 2*api.MaxBreaks+2)
	for i := range api.MaxBreaks + 1 {
		touching = append(touching, i, i+1)
	}
	for _, l := range [][]api.Break{
		nil,
		broken(0, 1),
		broken(0, -1),
		broken(5, 9, 9, 10, 12, -1),
		broken(0, api.MaxTime, api.MaxTime, -1),
		broken(touching[:2*api.MaxBreaks]...),
		{breakOf(api.MaxEventId, 3, 4), breakOf(0, 4, 5)},
	} {
		isFault(t, "CheckBreaks "+short(l), mark.CheckBreaks(l), api.OK)
	}
	for _, c := range []struct {
		l    []api.Break
		want api.Fault
	}{
		{broken(touching...), api.ErrLarge},
		{append(broken(touching[:2*api.MaxBreaks]...), breakOf(-1, -1, -1)), api.ErrLarge},
		{[]api.Break{breakOf(-1, 3, 4)}, api.ErrRange},
		{[]api.Break{breakOf(api.MaxEventId+1, 3, 4)}, api.ErrRange},
		{broken(-1, 4), api.ErrRange},
		{broken(-1, -1), api.ErrRange},
		{broken(api.MaxTime+1, -1), api.ErrRange},
		{broken(3, -2), api.ErrRange},
		{broken(3, api.MaxTime+1), api.ErrRange},
		{broken(3, 3), api.ErrOrder},
		{broken(3, 2), api.ErrOrder},
		{broken(3, 0), api.ErrOrder},
		{broken(3, -1, 5, 6), api.ErrState},
		{broken(3, -1, 2, 3), api.ErrState},
		{broken(3, -1, 5, -1), api.ErrState},
		{broken(3, 6, 5, 7), api.ErrOrder},
		{broken(3, 6, 1, 2), api.ErrOrder},
		{[]api.Break{breakOf(5, 0, 1), breakOf(6, 2, 3), breakOf(5, 4, 5)}, api.ErrTwice},
		{[]api.Break{breakOf(0, 0, 1), breakOf(0, 1, 2)}, api.ErrTwice},
	} {
		isFault(t, "CheckBreaks "+short(c.l), mark.CheckBreaks(c.l), c.want)
		l, f := mark.Shortened(c.l, -1)
		isNot(t, "Shortened "+short(c.l), l, f, c.want)
	}
	inOrder(t, "CheckBreaks", func() []api.Break { return broken(2, 4, 6, 8, 10, 12) }, mark.CheckBreaks, []wrong[[]api.Break]{
		{"the second Event", api.ErrRange, func(l *[]api.Break) { (*l)[1].Event = -1 }},
		{"the second End", api.ErrOrder, func(l *[]api.Break) { (*l)[1].End = 0 }},
		{"the first one is open", api.ErrState, func(l *[]api.Break) { (*l)[0].End = -1 }},
		{"the second Begin", api.ErrOrder, func(l *[]api.Break) { (*l)[1].Begin = 3 }},
		{"the second Event comes twice", api.ErrTwice, func(l *[]api.Break) { (*l)[1].Event = 0 }},
		{"the third Begin", api.ErrRange, func(l *[]api.Break) { (*l)[2].Begin = api.MaxTime + 1 }},
	})
	twice := []api.Break{breakOf(0, 5, -1), breakOf(0, 1, 2)}
	isFault(t, "CheckBreaks", mark.CheckBreaks(twice), api.ErrState)
	twice[0].End = 6
	isFault(t, "CheckBreaks", mark.CheckBreaks(twice), api.ErrOrder)
}

func TestShortened(t *testing.T) {
	l := broken(2, 4, 4, 8, 10, -1)
	for end, want := range map[int][]api.Break{
		0: nil, 1: nil, 2: nil,
		3: broken(2, 3), 4: broken(2, 4),
		5: broken(2, 4, 4, 5), 7: broken(2, 4, 4, 7), 8: broken(2, 4, 4, 8), 9: broken(2, 4, 4, 8), 10: broken(2, 4, 4, 8),
		11: broken(2, 4, 4, 8, 10, 11), api.MaxTime: broken(2, 4, 4, 8, 10, api.MaxTime),
	} {
		got, f := mark.Shortened(l, end)
		is(t, fmt.Sprint("Shortened to ", end), got, f, want)
	}
	got, f := mark.Shortened(nil, 7)
	is(t, "Shortened", got, f, nil)
	got, f = mark.Shortened(broken(0, 1), 0)
	is(t, "Shortened", got, f, nil)
	for _, end := range []int{-1, api.MaxTime + 1} {
		got, f := mark.Shortened(l, end)
		isNot(t, fmt.Sprint("Shortened to ", end), got, f, api.ErrRange)
	}
}
