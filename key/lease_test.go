package key_test

import (
	"fmt"
	"math/rand"
	"slices"
	"testing"

	"headend/api"
	"headend/key"
)

// ask returns an ask of ann.
func ask(time int, session string, kind int) api.Ask {
	return api.Ask{Time: time, User: "ann", Session: session, Kind: kind}
}

func play(time int, session string) api.Ask { return ask(time, session, api.AskPlay) }

func keep(time int, session string) api.Ask { return ask(time, session, api.AskKeep) }

func stop(time int, session string) api.Ask { return ask(time, session, api.AskStop) }

func given(until int) api.Lease { return api.Lease{Until: until} }

func refused(f api.Fault) api.Lease { return api.Lease{Answer: f} }

// ann returns the seats of ann.
func ann(most, long int) []api.Seats { return []api.Seats{{User: "ann", Most: most, Long: long}} }

// K8: Lease
func TestLease(t *testing.T) {
	full, state, denied := refused(api.ErrFull), refused(api.ErrState), refused(api.ErrDenied)
	for _, c := range []struct {
		what  string
		seats []api.Seats
		asks  []api.Ask
		want  []api.Lease
	}{
		{"no asks", ann(1, 10), nil, nil},
		{"the example", ann(1, 10), []api.Ask{play(0, "a"), play(9, "b"), play(10, "b")}, []api.Lease{given(10), full, given(20)}},
		{"given anew", ann(1, 10), []api.Ask{play(0, "a"), play(9, "a"), play(18, "a")}, []api.Lease{given(10), given(19), given(28)}},
		{"given anew at its end", ann(1, 10), []api.Ask{play(0, "a"), play(10, "a")}, []api.Lease{given(10), given(20)}},
		{"given anew where all is full", ann(2, 10), []api.Ask{play(0, "a"), play(1, "b"), play(2, "c"), play(3, "a"), play(4, "b")}, []api.Lease{given(10), given(11), full, given(13), given(14)}},
		{"another one at an end", ann(2, 10), []api.Ask{play(0, "a"), play(1, "b"), play(10, "c"), play(10, "d"), play(11, "d")}, []api.Lease{given(10), given(11), given(20), full, given(21)}},
		{"asks at one time", ann(2, 10), []api.Ask{play(5, "a"), play(5, "b"), play(5, "c"), play(5, "a")}, []api.Lease{given(15), given(15), full, given(15)}},
		{"kept", ann(1, 10), []api.Ask{play(0, "a"), keep(9, "a"), keep(18, "a")}, []api.Lease{given(10), given(19), given(28)}},
		{"kept at its end", ann(1, 10), []api.Ask{play(0, "a"), keep(10, "a")}, []api.Lease{given(10), state}},
		{"kept by another session", ann(1, 10), []api.Ask{play(0, "a"), keep(1, "b"), keep(2, "a")}, []api.Lease{given(10), state, given(12)}},
		{"kept before it is given", ann(1, 10), []api.Ask{keep(0, "a"), play(0, "a")}, []api.Lease{state, given(10)}},
		{"stopped", ann(1, 10), []api.Ask{play(0, "a"), stop(3, "a"), keep(3, "a"), stop(3, "a"), play(3, "b")}, []api.Lease{given(10), given(3), state, state, given(13)}},
		{"stopped at once", ann(1, 10), []api.Ask{play(0, "a"), stop(0, "a"), play(0, "b"), stop(0, "a")}, []api.Lease{given(10), given(0), given(10), state}},
		{"stopped, and given once more", ann(1, 10), []api.Ask{play(4, "a"), stop(5, "a"), play(5, "a")}, []api.Lease{given(14), given(5), given(15)}},
		{"stopped just before its end", ann(1, 10), []api.Ask{play(0, "a"), stop(9, "a")}, []api.Lease{given(10), given(9)}},
		{"stopped at its end", ann(1, 10), []api.Ask{play(0, "a"), stop(10, "a")}, []api.Lease{given(10), state}},
		{"stopped by another session", ann(1, 10), []api.Ask{play(0, "a"), stop(1, "b"), play(2, "b")}, []api.Lease{given(10), state, full}},
		{"Most of 0", ann(0, 10), []api.Ask{play(0, "a"), keep(0, "a"), stop(0, "a")}, []api.Lease{full, state, state}},
		{"a Long of 1", ann(1, 1), []api.Ask{play(0, "a"), play(0, "b"), play(1, "b")}, []api.Lease{given(1), full, given(2)}},
		{"no seats", nil, []api.Ask{play(0, "a"), keep(1, "a"), stop(2, "a")}, []api.Lease{denied, denied, denied}},
		{"seats of another user", []api.Seats{{User: "bob", Most: 1, Long: 5}}, []api.Ask{play(0, "a"), {Time: 0, User: "bob", Session: "a", Kind: api.AskPlay}}, []api.Lease{denied, given(5)}},
		{"the end of time", ann(1, api.MaxTime), []api.Ask{play(api.MaxTime, "a"), keep(api.MaxTime, "a")}, []api.Lease{given(2 * api.MaxTime), given(2 * api.MaxTime)}},
	} {
		l, f := key.Lease(c.seats, c.asks)
		is(t, "Lease: "+c.what, l, f, c.want)
	}
}

// Users with sessions of the same name have leases of their own.
func TestUsers(t *testing.T) {
	seats := []api.Seats{{User: "ann", Most: 1, Long: 10}, {User: "bob", Most: 2, Long: 7}}
	var asks []api.Ask
	for _, user := range []string{"ann", "bob", "cat"} {
		for _, session := range []string{"a", "b"} {
			asks = append(asks, api.Ask{User: user, Session: session, Kind: api.AskPlay})
		}
	}
	l, f := key.Lease(seats, asks)
	is(t, "Lease", l, f, []api.Lease{given(10), refused(api.ErrFull), given(7), given(7), refused(api.ErrDenied), refused(api.ErrDenied)})
	for user, want := range map[string]int{"ann": 1, "bob": 2, "cat": 0, "dog": 0} {
		n, f := key.Watching(seats, asks, user, 0)
		is(t, "Watching of "+user, n, f, want)
	}
}

// K8: Watching
func TestWatching(t *testing.T) {
	asks := []api.Ask{play(5, "a"), play(7, "b"), play(7, "c"), keep(8, "a"), stop(9, "b"), play(9, "c"), stop(12, "x")}
	for time, want := range map[int]int{0: 0, 4: 0, 5: 1, 6: 1, 7: 2, 8: 2, 9: 2, 10: 2, 17: 2, 18: 1, 19: 0, 20: 0, api.MaxTime: 0} {
		n, f := key.Watching(ann(2, 10), asks, "ann", time)
		is(t, fmt.Sprint("Watching at ", time), n, f, want)
	}
	n, f := key.Watching(ann(2, 10), asks, "bob", 8)
	is(t, "Watching of a user without seats", n, f, 0)
	n, f = key.Watching(nil, asks, "ann", 8)
	is(t, "Watching without seats", n, f, 0)
	n, f = key.Watching(ann(2, 10), nil, "ann", 8)
	is(t, "Watching without asks", n, f, 0)
	n, f = key.Watching(ann(0, 10), asks, "ann", 8)
	is(t, "Watching with Most of 0", n, f, 0)
	n, f = key.Watching(ann(1, 10), []api.Ask{play(3, "a"), stop(3, "a")}, "ann", 3)
	is(t, "Watching what is stopped at once", n, f, 0)
	n, f = key.Watching(ann(1, api.MaxTime), []api.Ask{play(api.MaxTime, "a")}, "ann", api.MaxTime)
	is(t, "Watching at the end of time", n, f, 1)
}

// granted is a lease that was given.
type granted struct {
	user, session string
	from, until   int
}

// record is all leases that were given.
type record []granted

// lasting returns the numbers of the leases of a user, and perhaps of a session, that last at a time.
func (l record) lasting(user, session string, time int) []int {
	var numbers []int
	for i, g := range l {
		isOf := g.user == user && (session == "" || g.session == session)
		if isOf && g.from <= time && time < g.until {
			numbers = append(numbers, i)
		}
	}
	return numbers
}

// answer answers an ask as the document says it.
func (l *record) answer(seats []api.Seats, a api.Ask) api.Lease {
	number := slices.IndexFunc(seats, func(s api.Seats) bool { return s.User == a.User })
	if number < 0 {
		return refused(api.ErrDenied)
	}
	s := seats[number]
	own := l.lasting(a.User, a.Session, a.Time)
	until := a.Time + s.Long
	switch {
	case a.Kind == api.AskStop && len(own) > 0:
		until = a.Time
	case a.Kind == api.AskPlay && len(own) == 0 && len(l.lasting(a.User, "", a.Time)) < s.Most:
		*l = append(*l, granted{a.User, a.Session, a.Time, until})
		return given(until)
	case a.Kind == api.AskPlay && len(own) == 0:
		return refused(api.ErrFull)
	case len(own) == 0:
		return refused(api.ErrState)
	}
	(*l)[own[0]].until = until
	return given(until)
}

func drawAsks(r *rand.Rand) []api.Ask {
	var asks []api.Ask
	time := 0
	for range r.Intn(40) {
		time += r.Intn(4) * r.Intn(2)
		kind := api.AskPlay
		if r.Intn(3) == 0 {
			kind += r.Intn(3)
		}
		asks = append(asks, api.Ask{Time: time, User: []string{"a", "b", "c"}[r.Intn(3)], Session: []string{"p", "q", "r", "s"}[r.Intn(4)], Kind: kind})
	}
	return asks
}

func TestManyLeases(t *testing.T) {
	r := rand.New(rand.NewSource(11))
	answers := map[api.Fault]int{}
	for range 3000 {
		seats := []api.Seats{{User: "a", Most: r.Intn(4), Long: 1 + r.Intn(8)}, {User: "b", Most: r.Intn(4), Long: 1 + r.Intn(8)}}
		asks := drawAsks(r)
		what := fmt.Sprint(seats, asks)
		var l record
		var want []api.Lease
		for _, a := range asks {
			want = append(want, l.answer(seats, a))
			answers[want[len(want)-1].Answer]++
		}
		got, f := key.Lease(seats, asks)
		is(t, "Lease "+what, got, f, want)
		for range 5 {
			manyWatching(t, what, seats, asks, r.Intn(60))
		}
	}
	for _, f := range []api.Fault{api.OK, api.ErrFull, api.ErrState, api.ErrDenied} {
		if answers[f] < 1000 {
			t.Error("too few answers", answers)
		}
	}
}

// manyWatching expects that at a time as many leases last as the asks up to it say, and never more than Most.
func manyWatching(t *testing.T, what string, seats []api.Seats, asks []api.Ask, time int) {
	t.Helper()
	var l record
	for _, a := range asks {
		if a.Time <= time {
			l.answer(seats, a)
		}
	}
	for _, s := range append(seats, api.Seats{User: "c"}) {
		n, f := key.Watching(seats, asks, s.User, time)
		is(t, fmt.Sprint("Watching ", what, s.User, time), n, f, len(l.lasting(s.User, "", time)))
		if n > s.Most {
			t.Error("more than Most", what, s.User, time, n)
		}
	}
}

// manySeats returns so many, by User.
func manySeats(n int) []api.Seats {
	var l []api.Seats
	for i := range n {
		l = append(l, api.Seats{User: fmt.Sprintf("u%04d", i), Most: api.MaxAtOnce, Long: 1})
	}
	return l
}

// K8: CheckSeats
func TestCheckSeats(t *testing.T) {
	good := func() []api.Seats {
		return []api.Seats{{User: "a", Most: 0, Long: 1}, {User: "b", Most: 3, Long: 5}, {User: "ba", Most: api.MaxAtOnce, Long: api.MaxTime}}
	}
	inOrder(t, "CheckSeats", good, key.CheckSeats, []wrong[[]api.Seats]{
		{"too many", api.ErrLarge, func(l *[]api.Seats) { *l = append(*l, make([]api.Seats, api.MaxUsers)...) }},
		{"the first Most", api.ErrRange, func(l *[]api.Seats) { (*l)[0].Most = -1 }},
		{"the second User", api.ErrName, func(l *[]api.Seats) { (*l)[1].User = "" }},
		{"the second User again", api.ErrOrder, func(l *[]api.Seats) {
			if (*l)[1].User == "b" {
				(*l)[1].User = "a"
			}
		}},
		{"the second Long", api.ErrRange, func(l *[]api.Seats) { (*l)[1].Long = 0 }},
		{"the third User", api.ErrOrder, func(l *[]api.Seats) { (*l)[2].User = "a" }},
		{"the third Most", api.ErrRange, func(l *[]api.Seats) { (*l)[2].Most = api.MaxAtOnce + 1 }},
	})
	inRange := map[bool]api.Fault{false: api.ErrRange}
	for _, n := range numbers {
		isFault(t, fmt.Sprint("CheckSeats with Most ", n), key.CheckSeats(ann(n, 1)), inRange[n >= 0 && n <= api.MaxAtOnce])
		isFault(t, fmt.Sprint("CheckSeats with Long ", n), key.CheckSeats(ann(1, n)), inRange[n >= 1 && n <= api.MaxTime])
	}
	for _, name := range noNames {
		isFault(t, fmt.Sprintf("CheckSeats with the User %q", name), key.CheckSeats([]api.Seats{{User: name, Long: 1}}), api.ErrName)
	}
	isFault(t, "CheckSeats of none", key.CheckSeats(nil), api.OK)
	isFault(t, "CheckSeats of as many as can be", key.CheckSeats(manySeats(api.MaxUsers)), api.OK)
	isFault(t, "CheckSeats of one too many", key.CheckSeats(manySeats(api.MaxUsers+1)), api.ErrLarge)
}

// asking is what Lease and Watching are given.
type asking struct {
	seats []api.Seats
	asks  []api.Ask
	user  string
	time  int
}

func someAsking() asking {
	return asking{ann(1, 10), []api.Ask{play(3, "a"), play(3, "b"), stop(9, "a")}, "ann", 5}
}

// askingWrongs are the errors of Lease.
var askingWrongs = []wrong[asking]{
	{"the seats", api.ErrRange, func(a *asking) { a.seats[0].Long = 0 }},
	{"too many asks", api.ErrLarge, func(a *asking) { a.asks = append(a.asks, make([]api.Ask, api.MaxAsks)...) }},
	{"the first Kind", api.ErrKind, func(a *asking) { a.asks[0].Kind = 0 }},
	{"the second Time", api.ErrRange, func(a *asking) { a.asks[1].Time = -1 }},
	{"the second User", api.ErrName, func(a *asking) { a.asks[1].User = "" }},
	{"the second Session", api.ErrName, func(a *asking) { a.asks[1].Session = "B" }},
	{"the second Kind", api.ErrKind, func(a *asking) { a.asks[1].Kind = 4 }},
	{"the second Time again", api.ErrOrder, func(a *asking) { a.asks[1].Time = min(a.asks[1].Time, 2) }},
	{"the third Session", api.ErrName, func(a *asking) { a.asks[2].Session = "" }},
	{"the third Time", api.ErrOrder, func(a *asking) { a.asks[2].Time = 0 }},
}

func callLease(t *testing.T, a asking) api.Fault {
	t.Helper()
	l, f := key.Lease(a.seats, a.asks)
	isWhole(t, "Lease", l, f)
	return f
}

func callWatching(t *testing.T, a asking) api.Fault {
	t.Helper()
	n, f := key.Watching(a.seats, a.asks, a.user, a.time)
	isWhole(t, "Watching", n, f)
	return f
}

func TestLeaseFaults(t *testing.T) {
	inOrder(t, "Lease", someAsking, func(a asking) api.Fault { return callLease(t, a) }, askingWrongs)
	inOrder(t, "Watching", someAsking, func(a asking) api.Fault { return callWatching(t, a) }, slices.Concat(askingWrongs, []wrong[asking]{
		{"the user", api.ErrName, func(a *asking) { a.user = "" }},
		{"the time", api.ErrRange, func(a *asking) { a.time = -1 }},
	}))
	for _, name := range noNames {
		isFault(t, fmt.Sprintf("Lease with the User %q", name), callLease(t, asking{asks: []api.Ask{{User: name, Session: "a", Kind: 1}}}), api.ErrName)
		isFault(t, fmt.Sprintf("Lease with the Session %q", name), callLease(t, asking{asks: []api.Ask{{User: "a", Session: name, Kind: 1}}}), api.ErrName)
		isFault(t, fmt.Sprintf("Watching with the user %q", name), callWatching(t, asking{user: name}), api.ErrName)
	}
	inRange := map[bool]api.Fault{false: api.ErrRange}
	for _, n := range numbers {
		isTime := inRange[n >= 0 && n <= api.MaxTime]
		isFault(t, fmt.Sprint("Lease with the Time ", n), callLease(t, asking{asks: []api.Ask{play(n, "a")}}), isTime)
		isFault(t, fmt.Sprint("Watching at ", n), callWatching(t, asking{user: "a", time: n}), isTime)
		want := map[bool]api.Fault{false: api.ErrKind}[n >= 1 && n <= 3]
		isFault(t, fmt.Sprint("Lease with the Kind ", n), callLease(t, asking{asks: []api.Ask{ask(5, "a", n)}}), want)
	}
	// Also an ask that is later than the time is examined.
	isFault(t, "Watching before a wrong ask", callWatching(t, asking{ann(1, 1), []api.Ask{play(3, "a"), play(9, "")}, "ann", 5}), api.ErrName)
	many := slices.Repeat([]api.Ask{play(3, "a")}, api.MaxAsks+1)
	isFault(t, "Lease of as many as can be", callLease(t, asking{seats: ann(1, 1), asks: many[1:]}), api.OK)
	isFault(t, "Lease of one too many", callLease(t, asking{seats: ann(1, 1), asks: many}), api.ErrLarge)
}

// As many leases at once as can be.
func TestMaxAtOnce(t *testing.T) {
	var asks []api.Ask
	for i := range api.MaxAtOnce + 1 {
		asks = append(asks, play(i, fmt.Sprint("s", i)))
	}
	l, f := key.Lease(ann(api.MaxAtOnce, 100), asks)
	if f != api.OK || l[api.MaxAtOnce-1] != given(149) || l[api.MaxAtOnce] != refused(api.ErrFull) {
		t.Error("Lease of as many at once as can be", l, f)
	}
	n, f := key.Watching(ann(api.MaxAtOnce, 100), asks, "ann", 60)
	is(t, "Watching of as many at once as can be", n, f, api.MaxAtOnce)
}
