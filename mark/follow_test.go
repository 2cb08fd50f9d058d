package mark_test

import (
	"fmt"
	"math/rand"
	"testing"

	"headend/api"
	"headend/mark"
)

// pair is two numbers that a function returns.
type pair struct{ a, b int }

// shown is what Programme returns.
type shown struct {
	tick     int
	isPlayed bool
}

// wrongParts is a timeline of which CheckParts says ErrOrder.
func wrongParts() []api.Part { return []api.Part{film(5, 5), spot("a", 3), film(0, 5)} }

// example is the programme up to 40, two advertisements, a part that is continued, and an advertisement.
func example() []api.Part {
	return []api.Part{film(0, 40), spot("a", 20), spot("b", 5), film(60, 10), film(70, 30), spot("a", 7)}
}

func TestPlace(t *testing.T) {
	for time, want := range map[int]pair{
		0: {0, 0}, 39: {0, 39}, 40: {1, 0}, 45: {1, 5}, 59: {1, 19}, 60: {2, 0}, 64: {2, 4},
		65: {3, 0}, 74: {3, 9}, 75: {4, 0}, 104: {4, 29}, 105: {5, 0}, 111: {5, 6},
	} {
		place, ticks, f := mark.Place(example(), time)
		is(t, fmt.Sprint("Place ", time), pair{place, ticks}, f, pair{want.a, want.b})
	}
	place, ticks, f := mark.Place([]api.Part{film(0, api.MaxTime)}, api.MaxTime-1)
	is(t, "Place of the last tick", pair{place, ticks}, f, pair{0, api.MaxTime - 1})
}

func TestProgramme(t *testing.T) {
	for time, want := range map[int]shown{
		0: {0, true}, 39: {39, true}, 40: {60, false}, 59: {60, false}, 60: {60, false}, 64: {60, false},
		65: {60, true}, 74: {69, true}, 75: {70, true}, 104: {99, true}, 105: {100, false}, 111: {100, false},
	} {
		tick, isPlayed, f := mark.Programme(example(), time)
		is(t, fmt.Sprint("Programme ", time), shown{tick, isPlayed}, f, want)
	}
	for _, c := range []struct {
		l    []api.Part
		want shown
	}{
		{[]api.Part{spot("a", 5)}, shown{0, false}},
		{[]api.Part{spot("a", 5), spot("b", 5), film(7, 5)}, shown{7, false}},
		{[]api.Part{spot("a", 5), film(7, 5), spot("b", 5), film(20, 5)}, shown{7, false}},
		{[]api.Part{film(api.MaxTime-1, 1), spot("a", 5)}, shown{api.MaxTime - 1, true}},
	} {
		tick, isPlayed, f := mark.Programme(c.l, 0)
		is(t, fmt.Sprint("Programme ", c.l), shown{tick, isPlayed}, f, c.want)
	}
	tick, isPlayed, f := mark.Programme([]api.Part{film(api.MaxTime-1, 1), spot("a", 5)}, 1)
	is(t, "Programme after the last tick", shown{tick, isPlayed}, f, shown{api.MaxTime, false})
}

func TestStitched(t *testing.T) {
	for time, want := range map[int][]int{
		0: {0}, 39: {39}, 40: nil, 59: nil, 60: {65}, 69: {74}, 70: {75}, 99: {104}, 100: nil, api.MaxTime: nil,
	} {
		l, f := mark.Stitched(example(), time)
		is(t, fmt.Sprint("Stitched ", time), l, f, want)
	}
	l, f := mark.Stitched([]api.Part{spot("a", 5)}, 0)
	is(t, "Stitched without a programme", l, f, nil)
	l, f = mark.Stitched(nil, 0)
	is(t, "Stitched of nothing", l, f, nil)
	l, f = mark.Stitched([]api.Part{film(3, 5)}, 2)
	is(t, "Stitched before the programme", l, f, nil)
	l, f = mark.Stitched([]api.Part{film(0, api.MaxTime)}, api.MaxTime-1)
	is(t, "Stitched of the last tick", l, f, []int{api.MaxTime - 1})
}

func TestResume(t *testing.T) {
	for _, c := range []struct {
		what string
		l    []api.Part
		seen []int
		time int
		want int
	}{
		{"at the beginning", example(), nil, 0, 0},
		{"before the ads", example(), nil, 39, 39},
		{"behind the ads", example(), nil, 60, 40},
		{"behind the ads, later", example(), nil, 69, 40},
		{"within the ads", example(), nil, 50, 40},
		{"the first one is seen", example(), []int{1}, 65, 60},
		{"the second one is seen", example(), []int{2}, 65, 40},
		{"both are seen", example(), []int{1, 2}, 65, 70},
		{"both are seen, in another order, and twice", example(), []int{2, 1, 2, 1, 5}, 65, 70},
		{"both are seen, within them", example(), []int{1, 2}, 50, 65},
		{"both are seen, at the tick before the part", example(), []int{1, 2}, 59, 65},
		{"the first tick that is replaced", example(), []int{1, 2}, 40, 65},
		{"in a part that is continued", example(), nil, 70, 75},
		{"in a part that is continued, the last tick", example(), nil, 99, 104},
		{"behind the programme", example(), nil, 100, 112},
		{"far behind the programme", example(), []int{5}, api.MaxTime, 112},
		{"only the last ad is seen", example(), []int{5}, 65, 40},
		{"ads before all", []api.Part{spot("a", 5), spot("a", 6), film(0, 9)}, nil, 3, 0},
		{"ads before all, the first one is seen", []api.Part{spot("a", 5), spot("a", 6), film(0, 9)}, []int{0}, 3, 5},
		{"ads before all, both are seen", []api.Part{spot("a", 5), spot("a", 6), film(0, 9)}, []int{0, 1}, 3, 14},
		{"a programme that begins later", []api.Part{spot("a", 5), film(7, 9)}, []int{0}, 3, 5},
		{"a programme that begins later, and nothing is seen", []api.Part{spot("a", 5), film(7, 9)}, nil, 3, 0},
		{"no programme", []api.Part{spot("a", 5), spot("b", 5)}, nil, 0, 10},
		{"nothing", nil, nil, 0, 0},
		{"ads between, with the programme between them", []api.Part{spot("a", 5), film(0, 1), spot("b", 5), film(1, 9)}, nil, 1, 6},
		{"ads between, with the programme between them, one is seen", []api.Part{spot("a", 5), film(0, 1), spot("b", 5), film(1, 9)}, []int{2}, 1, 11},
		{"the greatest numbers", []api.Part{film(0, api.MaxTime-1), spot("a", 1)}, nil, api.MaxTime - 1, api.MaxTime},
	} {
		n, f := mark.Resume(c.l, c.seen, c.time)
		is(t, "Resume "+c.what, n, f, c.want)
	}
}

// drawParts returns a timeline.
func drawParts(r *rand.Rand) []api.Part {
	var l []api.Part
	from := r.Intn(3)
	for range r.Intn(8) {
		if r.Intn(2) == 0 {
			l = append(l, spot([]string{"a", "b", "c"}[r.Intn(3)], 1+r.Intn(9)))
			continue
		}
		p := film(from, 1+r.Intn(5))
		from += p.Length + r.Intn(2)*r.Intn(4)
		l = append(l, p)
	}
	return l
}

// programmeOf returns what Programme has to return of a tick.
func programmeOf(ticks []tickOf, time int) shown {
	if ticks[time].ad == "" {
		return shown{ticks[time].from, true}
	}
	for _, tick := range ticks[time:] {
		if tick.ad == "" {
			return shown{tick.from, false}
		}
	}
	for i := range ticks {
		if tick := ticks[len(ticks)-1-i]; tick.ad == "" {
			return shown{tick.from + 1, false}
		}
	}
	return shown{}
}

// resumeOf returns what Resume has to return.
func resumeOf(l []api.Part, seen map[int]bool, time int) int {
	ticks := ticksOf(l)
	at := 0
	for at < len(ticks) && (ticks[at].ad != "" || ticks[at].from < time) {
		at++
	}
	if at == len(ticks) {
		return at
	}
	isBefore := true // whether an ad is directly before the part
	best := at
	for back := at; back >= 0 && isBefore; back-- {
		tick := ticks[back]
		isBefore = tick.part == ticks[at].part || tick.ad != ""
		if isBefore && tick.ad != "" && !seen[tick.part] {
			best = back
		}
	}
	return best
}

func TestManyFollowed(t *testing.T) {
	r := rand.New(rand.NewSource(7))
	for range 3000 {
		l := drawParts(r)
		ticks := ticksOf(l)
		what := fmt.Sprint(" ", l, " ")
		for time := range len(ticks) + 3 {
			place, count, f := mark.Place(l, time)
			tick, isPlayed, g := mark.Programme(l, time)
			if time >= len(ticks) {
				isNot(t, fmt.Sprint("Place", what, time), pair{place, count}, f, api.ErrNone)
				isNot(t, fmt.Sprint("Programme", what, time), shown{tick, isPlayed}, g, api.ErrNone)
				continue
			}
			is(t, fmt.Sprint("Place", what, time), pair{place, count + l[place].From}, f, pair{ticks[time].part, ticks[time].from})
			is(t, fmt.Sprint("Programme", what, time), shown{tick, isPlayed}, g, programmeOf(ticks, time))
		}
		seen := map[int]bool{}
		var list []int
		for i, p := range l {
			if p.Ad != "" && r.Intn(2) == 0 {
				seen[i] = true
				list = append([]int{i}, list...)
			}
		}
		for time := range 40 {
			var want []int
			for at, tick := range ticks {
				if tick.ad == "" && tick.from == time {
					want = append(want, at)
				}
			}
			at, f := mark.Stitched(l, time)
			is(t, fmt.Sprint("Stitched", what, time), at, f, want)
			n, f := mark.Resume(l, list, time)
			is(t, fmt.Sprint("Resume", what, list, time), n, f, resumeOf(l, seen, time))
		}
	}
}

// asking is what the functions that follow times are given.
type asking struct {
	l    []api.Part
	seen []int
	time int
}

func TestFollowFaults(t *testing.T) {
	place := func(a asking) api.Fault {
		i, n, f := mark.Place(a.l, a.time)
		isWhole(t, "Place", pair{i, n}, f)
		return f
	}
	programme := func(a asking) api.Fault {
		n, isPlayed, f := mark.Programme(a.l, a.time)
		isWhole(t, "Programme", shown{n, isPlayed}, f)
		return f
	}
	stitched := func(a asking) api.Fault {
		l, f := mark.Stitched(a.l, a.time)
		isWhole(t, "Stitched", l, f)
		return f
	}
	resume := func(a asking) api.Fault {
		n, f := mark.Resume(a.l, a.seen, a.time)
		isWhole(t, "Resume", n, f)
		return f
	}
	good := func() asking { return asking{example(), []int{1, 2, 1}, 30} }
	wrongs := []wrong[asking]{
		{"the timeline", api.ErrOrder, func(a *asking) { a.l = wrongParts() }},
		{"too small a time", api.ErrRange, func(a *asking) { a.time = -1 }},
		{"too great a time", api.ErrRange, func(a *asking) { a.time = api.MaxTime + 1 }},
	}
	inOrder(t, "Stitched", good, stitched, wrongs)
	inOrder(t, "Resume", good, resume, append(wrongs,
		wrong[asking]{"the first that is seen has no Ad", api.ErrType, func(a *asking) { a.seen[0] = 0 }},
		wrong[asking]{"no such part is seen", api.ErrRange, func(a *asking) { a.seen[1] = 6 }},
		wrong[asking]{"another one has no Ad", api.ErrType, func(a *asking) { a.seen[2] = 4 }},
	))
	ended := append(wrongs, wrong[asking]{"behind the end", api.ErrNone, func(a *asking) { a.l = a.l[:1]; a.time += 10 }})
	inOrder(t, "Place", good, place, ended)
	inOrder(t, "Programme", good, programme, ended)
	isFault(t, "Place of nothing", place(asking{}), api.ErrNone)
	isFault(t, "Programme of nothing", programme(asking{}), api.ErrNone)
	isFault(t, "Place behind the end", place(asking{example(), nil, api.MaxTime}), api.ErrNone)
	isFault(t, "Resume with a part before all", resume(asking{example(), []int{-1}, 0}), api.ErrRange)
	isFault(t, "Resume of nothing with a part", resume(asking{nil, []int{0}, 0}), api.ErrRange)
}
