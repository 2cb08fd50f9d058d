package key_test

import (
	"fmt"
	"math/rand"
	"slices"
	"testing"

	"headend/api"
	"headend/key"
)

// licence returns one of ann for the periods 0 to 4, which shows up to 720 lines on a tv.
func licence(id string, from, to, long int) api.Licence {
	return api.Licence{User: "ann", Id: id, Periods: api.Span{From: 0, To: 5}, From: from, To: to, Long: long, Outputs: []api.Output{{Kind: "tv", Height: 720}}}
}

// seen returns a play of 720 lines on a tv.
func seen(time, first int) api.Play {
	return api.Play{Time: time, First: first, Output: "tv", Height: 720}
}

// found is what May returns.
type found struct {
	id string
	is bool
}

// K7: what one licence permits
func TestMay(t *testing.T) {
	one := licence("a", 100, 200, 20)
	one.Periods = api.Span{From: 2, To: 5}
	one.Outputs = []api.Output{{Kind: "phone", Height: 360}, {Kind: "tv", Height: 720}}
	yes, no := found{"a", true}, found{}
	for _, c := range []struct {
		what   string
		user   string
		period int
		play   api.Play
		want   found
	}{
		{"the first use", "ann", 3, seen(150, -1), yes},
		{"another user", "bob", 3, seen(150, -1), no},
		{"the first period", "ann", 2, seen(150, -1), yes},
		{"a period before", "ann", 1, seen(150, -1), no},
		{"the last period", "ann", 4, seen(150, -1), yes},
		{"a period after", "ann", 5, seen(150, -1), no},
		{"a time before From", "ann", 3, seen(99, -1), no},
		{"From", "ann", 3, seen(100, -1), yes},
		{"the last time", "ann", 3, seen(199, -1), yes},
		{"To", "ann", 3, seen(200, -1), no},
		{"a First of Time", "ann", 3, seen(150, 150), yes},
		{"just within Long", "ann", 3, seen(150, 131), yes},
		{"just behind Long", "ann", 3, seen(150, 130), no},
		{"a First of 0", "ann", 3, seen(150, 0), no},
		{"a First before From", "ann", 3, seen(100, 81), yes},
		{"a lesser Height", "ann", 3, api.Play{Time: 150, First: -1, Output: "tv", Height: 719}, yes},
		{"a greater Height", "ann", 3, api.Play{Time: 150, First: -1, Output: "tv", Height: 721}, no},
		{"the Height of another Output", "ann", 3, api.Play{Time: 150, First: -1, Output: "phone", Height: 720}, no},
		{"another Output", "ann", 3, api.Play{Time: 150, First: -1, Output: "phone", Height: 360}, yes},
		{"an Output that it has not", "ann", 3, api.Play{Time: 150, First: -1, Output: "watch", Height: 1}, no},
	} {
		id, is1, f := key.May([]api.Licence{one}, c.user, c.period, c.play)
		is(t, "May: "+c.what, found{id, is1}, f, c.want)
		until, f := key.Until([]api.Licence{one}, c.user, c.period, c.play)
		if f != api.OK || (until > c.play.Time) != c.want.is {
			t.Error("Until:", c.what, until, f)
		}
	}
	endless := licence("a", 100, 200, 0)
	for first, time := range map[int]int{-1: 100, 0: 100, 3: 199, 150: 199, 199: 199} {
		id, is1, f := key.May([]api.Licence{endless}, "ann", 0, seen(time, first))
		is(t, fmt.Sprint("May without Long ", first, time), found{id, is1}, f, yes)
	}
}

func TestFirstThatMay(t *testing.T) {
	l := []api.Licence{licence("a", 0, 10, 0), licence("b", 0, 30, 0), licence("c", 0, 30, 0)}
	for time, want := range map[int]found{5: {"a", true}, 10: {"b", true}, 29: {"b", true}, 30: {}} {
		id, is1, f := key.May(l, "ann", 0, seen(time, -1))
		is(t, fmt.Sprint("May of several at ", time), found{id, is1}, f, want)
	}
	id, is1, f := key.May(nil, "ann", 0, seen(5, -1))
	is(t, "May of none", found{id, is1}, f, found{})
}

// K7: Until
func TestUntil(t *testing.T) {
	for _, c := range []struct {
		what string
		l    []api.Licence
		play api.Play
		want int
	}{
		{"no licences", nil, seen(50, -1), 50},
		{"none permits it", []api.Licence{licence("a", 60, 70, 0)}, seen(50, -1), 50},
		{"one", []api.Licence{licence("a", 40, 70, 0)}, seen(50, -1), 70},
		{"one that begins now", []api.Licence{licence("a", 50, 70, 0)}, seen(50, -1), 70},
		{"one that ends now", []api.Licence{licence("a", 40, 50, 0)}, seen(50, -1), 50},
		{"Long ends before To", []api.Licence{licence("a", 40, 70, 10)}, seen(50, -1), 60},
		{"Long ends at To", []api.Licence{licence("a", 40, 70, 20)}, seen(50, -1), 70},
		{"Long ends behind To", []api.Licence{licence("a", 40, 70, 21)}, seen(50, -1), 70},
		{"Long after an earlier First", []api.Licence{licence("a", 40, 70, 10)}, seen(50, 45), 55},
		{"Long after a First of Time", []api.Licence{licence("a", 40, 70, 10)}, seen(50, 50), 60},
		{"Long is over", []api.Licence{licence("a", 40, 70, 10)}, seen(50, 40), 50},
		{"they follow one another", []api.Licence{licence("a", 40, 60, 0), licence("b", 60, 80, 0)}, seen(50, -1), 80},
		{"they follow one another in another order", []api.Licence{licence("a", 60, 80, 0), licence("b", 40, 60, 0)}, seen(50, -1), 80},
		{"they overlap", []api.Licence{licence("a", 40, 60, 0), licence("b", 55, 80, 0)}, seen(50, -1), 80},
		{"one is within the other", []api.Licence{licence("a", 40, 80, 0), licence("b", 50, 60, 0)}, seen(50, -1), 80},
		{"they leave a gap", []api.Licence{licence("a", 40, 60, 0), licence("b", 61, 80, 0)}, seen(50, -1), 60},
		{"three in turn", []api.Licence{licence("a", 70, 90, 0), licence("b", 60, 75, 0), licence("c", 40, 60, 0)}, seen(50, -1), 90},
		{"Long leaves a gap", []api.Licence{licence("a", 40, 60, 9), licence("b", 60, 80, 0)}, seen(50, -1), 59},
		{"Long of the second one ends before it begins", []api.Licence{licence("a", 40, 60, 0), licence("b", 60, 80, 10)}, seen(50, -1), 60},
		{"Long of the second one counts from the first use on", []api.Licence{licence("a", 40, 60, 0), licence("b", 60, 80, 15)}, seen(50, -1), 65},
		{"another one goes on after Long", []api.Licence{licence("a", 40, 80, 5), licence("b", 40, 80, 20)}, seen(50, -1), 70},
		{"the end of time", []api.Licence{licence("a", 0, api.MaxTime, api.MaxTime)}, seen(api.MaxTime-1, -1), api.MaxTime},
		{"behind the end of all licences", []api.Licence{licence("a", 0, api.MaxTime, 0)}, seen(api.MaxTime, -1), api.MaxTime},
	} {
		n, f := key.Until(c.l, "ann", 0, c.play)
		is(t, "Until: "+c.what, n, f, c.want)
	}
}

// may returns what May has to return, by the definitions.
func may(l []api.Licence, user string, period int, u api.Play) found {
	for _, one := range l {
		has := false
		for _, o := range one.Outputs {
			has = has || o.Kind == u.Output && o.Height >= u.Height
		}
		isOf := one.User == user && one.Periods.From <= period && period < one.Periods.To
		isNow := one.From <= u.Time && u.Time < one.To
		isLong := one.Long == 0 || u.First == -1 || u.Time < u.First+one.Long
		if has && isOf && isNow && isLong {
			return found{one.Id, true}
		}
	}
	return found{}
}

func drawLicences(r *rand.Rand) []api.Licence {
	var l []api.Licence
	for _, user := range []string{"a", "b"} {
		for _, id := range []string{"p", "q", "r", "s"}[:r.Intn(5)] {
			from, period := r.Intn(20), r.Intn(3)
			one := api.Licence{User: user, Id: id, Periods: api.Span{From: period, To: period + 1 + r.Intn(3)}, From: from, To: from + 1 + r.Intn(20), Long: r.Intn(15) * r.Intn(2)}
			for _, kind := range []string{"x", "y"}[r.Intn(2):] {
				one.Outputs = append(one.Outputs, api.Output{Kind: kind, Height: 1 + r.Intn(3)})
			}
			l = append(l, one)
		}
	}
	return l
}

func TestManyLicences(t *testing.T) {
	r := rand.New(rand.NewSource(10))
	permitted := 0
	for range 20000 {
		l := drawLicences(r)
		user, period, time := []string{"a", "b", "c"}[r.Intn(3)], r.Intn(4), r.Intn(40)
		u := api.Play{Time: time, First: max(-1, time-r.Intn(20)), Output: []string{"x", "y"}[r.Intn(2)], Height: 1 + r.Intn(3)}
		if r.Intn(2) == 0 {
			u.First = -1
		}
		what := fmt.Sprint(l, user, period, u)
		want := may(l, user, period, u)
		id, is1, f := key.May(l, user, period, u)
		is(t, "May "+what, found{id, is1}, f, want)
		until, f := key.Until(l, user, period, u)
		if want.is {
			permitted++
		}
		if u.First == -1 {
			u.First = u.Time
		}
		for may(l, user, period, u).is {
			u.Time++
		}
		is(t, "Until "+what, until, f, u.Time)
	}
	if permitted < 1000 {
		t.Error("too few are permitted", permitted)
	}
}

// manyLicences returns so many, by Id, and outputs of the first one.
func manyLicences(n, outputs int) []api.Licence {
	var l []api.Licence
	for i := range n {
		l = append(l, licence(fmt.Sprintf("a%04d", i), 0, 10, 0))
	}
	l[0].Outputs = nil
	for i := range outputs {
		l[0].Outputs = append(l[0].Outputs, api.Output{Kind: fmt.Sprintf("k%04d", i), Height: 1})
	}
	return l
}

// K7: CheckLicences
func TestCheckLicences(t *testing.T) {
	good := func() []api.Licence {
		l := []api.Licence{licence("a", 10, 20, 0), licence("b", 10, 20, 5), licence("a", 30, 40, 0)}
		l[1].Outputs = []api.Output{{Kind: "phone", Height: 1}, {Kind: "tv", Height: api.MaxHeight}}
		l[2].User = "bob"
		return l
	}
	inOrder(t, "CheckLicences", good, key.CheckLicences, []wrong[[]api.Licence]{
		{"too many", api.ErrLarge, func(l *[]api.Licence) { *l = append(*l, make([]api.Licence, api.MaxLicences)...) }},
		{"the last thing of the first one", api.ErrRange, func(l *[]api.Licence) { (*l)[0].Outputs[0].Height = 0 }},
		{"the second User", api.ErrName, func(l *[]api.Licence) { (*l)[1].User = "" }},
		{"the second Id", api.ErrName, func(l *[]api.Licence) { (*l)[1].Id = "B" }},
		{"the second Id again", api.ErrOrder, func(l *[]api.Licence) {
			if (*l)[1].Id == "b" {
				(*l)[1].Id = "a"
			}
		}},
		{"the second Periods.From", api.ErrRange, func(l *[]api.Licence) { (*l)[1].Periods.From = -1 }},
		{"the second Periods.To", api.ErrOrder, func(l *[]api.Licence) { (*l)[1].Periods.To = (*l)[1].Periods.From }},
		{"the second From", api.ErrRange, func(l *[]api.Licence) { (*l)[1].From = -1 }},
		{"the second To", api.ErrOrder, func(l *[]api.Licence) { (*l)[1].To = max((*l)[1].From, 0) }},
		{"the second Long", api.ErrRange, func(l *[]api.Licence) { (*l)[1].Long = -1 }},
		{"too many Outputs", api.ErrLarge, func(l *[]api.Licence) {
			(*l)[1].Outputs = append((*l)[1].Outputs, make([]api.Output, api.MaxOutputs)...)
		}},
		{"the Height of the first Output", api.ErrRange, func(l *[]api.Licence) { (*l)[1].Outputs[0].Height = api.MaxHeight + 1 }},
		{"the Kind of the second Output", api.ErrName, func(l *[]api.Licence) { (*l)[1].Outputs[1].Kind = "" }},
		{"the Kind of the second Output again", api.ErrOrder, func(l *[]api.Licence) {
			if (*l)[1].Outputs[1].Kind == "tv" {
				(*l)[1].Outputs[1].Kind = "phone"
			}
		}},
		{"the Height of the second Output", api.ErrRange, func(l *[]api.Licence) { (*l)[1].Outputs[1].Height = 0 }},
		{"the third User", api.ErrOrder, func(l *[]api.Licence) { (*l)[2].User = "aaa" }},
	})
	isFault(t, "CheckLicences of none", key.CheckLicences(nil), api.OK)
	isFault(t, "CheckLicences of as many as can be", key.CheckLicences(manyLicences(api.MaxLicences, api.MaxOutputs)), api.OK)
	isFault(t, "CheckLicences of one too many", key.CheckLicences(manyLicences(api.MaxLicences+1, api.MaxOutputs)), api.ErrLarge)
	isFault(t, "CheckLicences with an Output too many", key.CheckLicences(manyLicences(2, api.MaxOutputs+1)), api.ErrLarge)
	isFault(t, "CheckLicences without Outputs", key.CheckLicences(manyLicences(2, 0)), api.ErrNone)
}

func TestLicenceOrder(t *testing.T) {
	for _, c := range []struct {
		users [2]string
		ids   [2]string
		want  api.Fault
	}{
		{[2]string{"ann", "ann"}, [2]string{"a", "b"}, api.OK},
		{[2]string{"ann", "ann"}, [2]string{"a", "a-"}, api.OK},
		{[2]string{"ann", "ann"}, [2]string{"a", "a"}, api.ErrOrder},
		{[2]string{"ann", "ann"}, [2]string{"b", "a"}, api.ErrOrder},
		{[2]string{"ann", "bob"}, [2]string{"b", "a"}, api.OK},
		{[2]string{"ann", "bob"}, [2]string{"a", "a"}, api.OK},
		{[2]string{"bob", "ann"}, [2]string{"a", "b"}, api.ErrOrder},
		{[2]string{"a", "ab"}, [2]string{"z", "a"}, api.OK}, // not a, z and ab, a put together
	} {
		l := []api.Licence{licence(c.ids[0], 1, 2, 0), licence(c.ids[1], 1, 2, 0)}
		l[0].User, l[1].User = c.users[0], c.users[1]
		isFault(t, fmt.Sprint("CheckLicences in the order ", c), key.CheckLicences(l), c.want)
	}
}

func TestLicenceNumbers(t *testing.T) {
	inRange := map[bool]api.Fault{false: api.ErrRange}
	with := func(change func(l *api.Licence)) api.Fault {
		l := licence("a", 10, 20, 0)
		change(&l)
		return key.CheckLicences([]api.Licence{l})
	}
	for _, name := range noNames {
		isFault(t, fmt.Sprintf("the User %q", name), with(func(l *api.Licence) { l.User = name }), api.ErrName)
		isFault(t, fmt.Sprintf("the Id %q", name), with(func(l *api.Licence) { l.Id = name }), api.ErrName)
		isFault(t, fmt.Sprintf("the Kind %q", name), with(func(l *api.Licence) { l.Outputs[0].Kind = name }), api.ErrName)
	}
	isFault(t, "long names", with(func(l *api.Licence) { l.User, l.Id, l.Outputs[0].Kind = longName, longName, longName }), api.OK)
	for _, n := range numbers {
		isFault(t, fmt.Sprint("Long ", n), with(func(l *api.Licence) { l.Long = n }), inRange[n >= 0 && n <= api.MaxTime])
		isFault(t, fmt.Sprint("Height ", n), with(func(l *api.Licence) { l.Outputs[0].Height = n }), inRange[n >= 1 && n <= api.MaxHeight])
		for _, m := range numbers {
			want := api.OK
			switch {
			case n < 0 || n > api.MaxPeriods:
				want = api.ErrRange
			case m <= n:
				want = api.ErrOrder
			case m > api.MaxPeriods+1:
				want = api.ErrRange
			}
			isFault(t, fmt.Sprint("Periods ", n, m), with(func(l *api.Licence) { l.Periods = api.Span{From: n, To: m} }), want)
			want = api.OK
			switch {
			case n < 0 || n > api.MaxTime || m < 0 || m > api.MaxTime:
				want = api.ErrRange
			case m <= n:
				want = api.ErrOrder
			}
			isFault(t, fmt.Sprint("From and To ", n, m), with(func(l *api.Licence) { l.From, l.To = n, m }), want)
		}
	}
}

// playing is what May and Until are given.
type playing struct {
	l      []api.Licence
	user   string
	period int
	play   api.Play
}

func somePlaying() playing {
	return playing{[]api.Licence{licence("a", 10, 20, 0)}, "ann", 3, seen(15, 12)}
}

// mayAndUntil expects that both tell the same fault, and returns it.
func mayAndUntil(t *testing.T, p playing) api.Fault {
	t.Helper()
	id, is1, f := key.May(p.l, p.user, p.period, p.play)
	isWhole(t, "May", found{id, is1}, f)
	n, g := key.Until(p.l, p.user, p.period, p.play)
	isWhole(t, "Until", n, g)
	isFault(t, "Until, as May", g, f)
	return f
}

func TestPlayFaults(t *testing.T) {
	inOrder(t, "May, Until", somePlaying, func(p playing) api.Fault { return mayAndUntil(t, p) }, []wrong[playing]{
		{"the licences", api.ErrNone, func(p *playing) { p.l[0].Outputs = nil }},
		{"the user", api.ErrName, func(p *playing) { p.user = "" }},
		{"the period", api.ErrRange, func(p *playing) { p.period = -1 }},
		{"the Output", api.ErrName, func(p *playing) { p.play.Output = "TV" }},
		{"the Height", api.ErrRange, func(p *playing) { p.play.Height = 0 }},
	})
	inOrder(t, "May, Until", somePlaying, func(p playing) api.Fault { return mayAndUntil(t, p) }, []wrong[playing]{
		{"Time", api.ErrRange, func(p *playing) { p.play.Time = -1 }},
		{"First", api.ErrRange, func(p *playing) { p.play.First = 16 }},
		{"the Output", api.ErrName, func(p *playing) { p.play.Output = "" }},
	})
	for _, name := range noNames {
		p := somePlaying()
		p.user = name
		isFault(t, fmt.Sprintf("the user %q", name), mayAndUntil(t, p), api.ErrName)
		p = somePlaying()
		p.play.Output = name
		isFault(t, fmt.Sprintf("the Output %q", name), mayAndUntil(t, p), api.ErrName)
	}
	inRange := map[bool]api.Fault{false: api.ErrRange}
	for _, n := range numbers {
		p := somePlaying()
		p.period = n
		isFault(t, fmt.Sprint("the period ", n), mayAndUntil(t, p), inRange[n >= 0 && n <= api.MaxPeriods])
		p = somePlaying()
		p.play.Height = n
		isFault(t, fmt.Sprint("the Height ", n), mayAndUntil(t, p), inRange[n >= 1 && n <= api.MaxHeight])
		for _, m := range numbers {
			p := somePlaying()
			p.play.Time, p.play.First = n, m
			want := inRange[n >= 0 && n <= api.MaxTime && m >= -1 && m <= n]
			isFault(t, fmt.Sprint("Time and First ", n, m), mayAndUntil(t, p), want)
		}
	}
	many := slices.Repeat([]api.Licence{{}}, api.MaxLicences+1)
	isFault(t, "too many licences", mayAndUntil(t, playing{l: many}), api.ErrLarge)
}
