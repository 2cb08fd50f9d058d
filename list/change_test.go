package list_test

import (
	"fmt"
	"math/rand"
	"slices"
	"testing"

	"headend/api"
	"headend/list"
)

func ended(l api.List) api.List { return changed(l, func(l *api.List) { l.Ended = true }) }

func TestAdd(t *testing.T) {
	e := api.Entry{Uri: "e", Milli: 2000, Break: true, Date: 7, Key: "k2", Gap: true, Extra: []string{"#X"}}
	for _, l := range []api.List{all(), none(), many(api.MaxEntries - 1)} {
		added, f := list.Add(l, e)
		is(t, "Add", added, f, changed(l, func(l *api.List) { l.Entries = append(l.Entries, e) }))
		isFault(t, "Follows", list.Follows(l, added), api.OK)
	}
	for what, c := range map[string]struct {
		l    api.List
		e    api.Entry
		want api.Fault
	}{
		"to a wrong one":                  {ended(bad()), api.Entry{}, api.ErrForm},
		"to one with a wrong head":        {changed(ended(all()), func(l *api.List) { l.Target = 0 }), api.Entry{}, api.ErrRange},
		"to an Ended one":                 {ended(all()), e, api.ErrState},
		"to an Ended one without entries": {ended(none()), e, api.ErrState},
		"a wrong one to an Ended one":     {ended(all()), api.Entry{}, api.ErrState},
		"a wrong one":                     {all(), api.Entry{}, api.ErrForm},
		"a zero Milli":                    {none(), api.Entry{Uri: "u"}, api.ErrRange},
		"one that is too long":            {all(), entry("u", 6500), api.ErrLarge},
		"a wrong Key":                     {all(), api.Entry{Uri: "u", Milli: 1, Key: "K"}, api.ErrName},
		"one too many":                    {many(api.MaxEntries), e, api.ErrLarge},
		"a wrong one too many":            {many(api.MaxEntries), api.Entry{}, api.ErrLarge},
		"one too many to an Ended one":    {ended(many(api.MaxEntries)), e, api.ErrState},
	} {
		added, f := list.Add(c.l, c.e)
		isNot(t, "Add "+what, added, f, c.want)
	}
}

// slid is what Slide returns.
type slid struct {
	list api.List
	gone int
}

func TestSlide(t *testing.T) {
	example := listOf(5, 4000, 6000, 6000)
	after := func(l api.List, n int) slid {
		return slid{changed(l, func(l *api.List) {
			for _, e := range l.Entries[:n] {
				if e.Break {
					l.Breaks++
				}
			}
			l.First += n
			l.Entries = l.Entries[n:]
		}), n}
	}
	for _, c := range []struct {
		what       string
		l          api.List
		keep, gone int
	}{
		{"the example", example, 11000, 1},
		{"to just so many", example, 12000, 1},
		{"to one more", example, 12001, 0},
		{"to the last one", example, 6000, 2},
		{"to less than the last one", example, 1, 2},
		{"to all", example, 16000, 0},
		{"to more than all", example, 16001, 0},
		{"to far more than all", example, api.MaxTime, 0},
		{"to nothing", example, 0, 3},
		{"a list without entries", none(), 0, 0},
		{"a list without entries, to more", none(), 5, 0},
		{"breaks", all(), 0, 4},
		{"a break at the first entry", all(), 12500, 1},
		{"no break", all(), 6499, 2},
		{"all but the last one", all(), 1, 3},
		{"nothing", all(), 12501, 0},
		{"to the greatest First", changed(example, func(l *api.List) { l.First = maxFirst - 3 }), 0, 3},
		{"not from the greatest First", changed(example, func(l *api.List) { l.First = maxFirst }), 16000, 0},
		{"to the most Breaks", changed(all(), func(l *api.List) { l.Breaks = api.MaxTime - 2 }), 0, 4},
		{"not from the most Breaks", changed(all(), func(l *api.List) { l.Breaks = api.MaxTime }), api.MaxTime, 0},
		{"one without Break from the most Breaks", changed(listOf(0, 5, 5), func(l *api.List) { l.Breaks = api.MaxTime }), 5, 1},
	} {
		l, n, f := list.Slide(c.l, c.keep)
		is(t, "Slide "+c.what, slid{l, n}, f, after(c.l, c.gone))
	}
	l, _, _ := list.Slide(all(), 0)
	if l.First != 9 || l.Breaks != 5 {
		t.Error("Slide", l.First, l.Breaks)
	}
	type args struct {
		l    api.List
		keep int
	}
	call := func(a args) api.Fault {
		l, n, f := list.Slide(a.l, a.keep)
		isWhole(t, "Slide", slid{l, n}, f)
		return f
	}
	inOrder(t, "Slide", func() args { return args{all(), 0} }, call, []wrong[args]{
		{"a wrong list", api.ErrForm, func(a *args) { a.l.Entries = bad().Entries }},
		{"keep -1", api.ErrRange, func(a *args) { a.keep = -1 }},
		{"keep too great", api.ErrRange, func(a *args) { a.keep = api.MaxTime + 1 }},
		{"an Ended one", api.ErrState, func(a *args) { a.l.Ended = true }},
		{"First too great", api.ErrRange, func(a *args) { a.l.First = maxFirst - 3 }},
		{"Breaks too great", api.ErrRange, func(a *args) { a.l.Breaks = api.MaxTime - 1 }},
	})
}

func TestEnd(t *testing.T) {
	for _, l := range []api.List{all(), none(), ended(all()), ended(none())} {
		now, f := list.End(l)
		is(t, "End", now, f, ended(l))
		isFault(t, "Follows", list.Follows(l, now), api.OK)
	}
	l, f := list.End(bad())
	isNot(t, "End", l, f, api.ErrForm)
}

// both is two lists.
type both struct{ old, now api.List }

func TestFollowsOrder(t *testing.T) {
	good := func() both {
		return both{all(), changed(all(), func(l *api.List) {
			l.First, l.Breaks, l.Entries = 6, 4, append(l.Entries[1:], entry("e", 5))
		})}
	}
	inOrder(t, "Follows", good, func(b both) api.Fault { return list.Follows(b.old, b.now) }, []wrong[both]{
		{"a wrong old one", api.ErrForm, func(b *both) { b.old.Entries = bad().Entries }},
		{"a wrong one now", api.ErrName, func(b *both) { b.now.Entries[0].Key = "-" }},
		{"another Target", api.ErrType, func(b *both) { b.now.Target = 7 }},
		{"an Ended one", api.ErrState, func(b *both) { b.old.Ended = true }},
		{"a lesser First", api.ErrOrder, func(b *both) { b.now.First = 4 }},
		{"a lesser First, but not a lesser end", api.ErrOrder, func(b *both) { b.now.First, b.now.Entries = 4, listOf(0, 1, 1, 1, 1, 1, 1, 1).Entries }},
		{"a lesser end", api.ErrOrder, func(b *both) { b.now.Entries = b.now.Entries[:2] }},
		{"another entry", api.ErrClash, func(b *both) { b.now.Entries[0].Uri = "x" }},
		{"another break number", api.ErrForm, func(b *both) { b.now.Breaks = 3 }},
		{"another later entry", api.ErrClash, func(b *both) { b.now.Entries[2].Uri = "x" }},
	})
}

func TestFollowsEntries(t *testing.T) {
	for what, change := range map[string]func(e *api.Entry){
		"Uri":       func(e *api.Entry) { e.Uri = "x" },
		"Milli":     func(e *api.Entry) { e.Milli++ },
		"Break":     func(e *api.Entry) { e.Break = !e.Break },
		"Date":      func(e *api.Entry) { e.Date++ },
		"Key":       func(e *api.Entry) { e.Key += "x" },
		"Gap":       func(e *api.Entry) { e.Gap = !e.Gap },
		"an Extra":  func(e *api.Entry) { e.Extra = append(e.Extra, "#X") },
		"no Extra":  func(e *api.Entry) { e.Extra = e.Extra[:len(e.Extra)-1] },
		"its Extra": func(e *api.Entry) { e.Extra[0] += "x" },
	} {
		l := all()
		for i := range l.Entries {
			if len(l.Entries[i].Extra) == 0 {
				l.Entries[i].Extra = []string{"#X"}
			}
			l.Entries[i].Milli = 3000
		}
		for place := range l.Entries {
			now := edited(l, place, change)
			isFault(t, fmt.Sprint("Follows with another ", what, " at ", place), list.Follows(l, now), api.ErrClash)
			isFault(t, fmt.Sprint("Follows of an Ended one with another ", what, " at ", place), list.Follows(ended(l), ended(now)), api.ErrState)
		}
	}
}

func TestFollows(t *testing.T) {
	at := func(first, breaks, n int) api.List {
		l := listOf(first, slices.Repeat([]int{1000}, n)...)
		l.Breaks = breaks
		return l
	}
	broken := func(l api.List, places ...int) api.List {
		for _, place := range places {
			l.Entries[place].Break = true
		}
		return l
	}
	for _, c := range []struct {
		what     string
		old, now api.List
		want     api.Fault
	}{
		{"the same", all(), all(), api.OK},
		{"the same without entries", none(), none(), api.OK},
		{"the same Ended one", ended(all()), ended(all()), api.OK},
		{"the same Ended one without entries", ended(none()), ended(none()), api.OK},
		{"Ended", all(), ended(all()), api.OK},
		{"no more Ended", ended(all()), all(), api.ErrState},
		{"an Ended one with another First", ended(none()), changed(ended(none()), func(l *api.List) { l.First++ }), api.ErrState},
		{"an Ended one with another Breaks", ended(none()), changed(ended(none()), func(l *api.List) { l.Breaks++ }), api.ErrState},
		{"an Ended one with another Target", ended(none()), changed(ended(none()), func(l *api.List) { l.Target++ }), api.ErrType},
		{"an Ended one with more", ended(at(0, 0, 1)), ended(at(0, 0, 2)), api.ErrState},
		{"an Ended one with less", ended(at(0, 0, 2)), ended(at(1, 0, 1)), api.ErrState},
		{"more", at(3, 1, 2), at(3, 1, 4), api.OK},
		{"less", at(3, 1, 2), at(4, 1, 1), api.OK},
		{"more and less", at(3, 1, 2), at(4, 1, 3), api.OK},
		{"more of one without entries", at(3, 1, 0), at(3, 1, 4), api.OK},
		{"nothing left", at(3, 1, 2), at(5, 1, 0), api.OK},
		{"nothing left, but too little has gone", at(3, 1, 2), at(4, 1, 0), api.ErrOrder},
		{"all others", at(3, 1, 2), at(5, 1, 2), api.OK},
		{"far ahead", at(3, 1, 2), at(50, 1, 2), api.OK},
		{"far ahead of one without entries", at(3, 1, 0), at(50, 1, 0), api.OK},
		{"from nothing back", at(3, 1, 0), at(2, 1, 5), api.ErrOrder},
		{"back", at(3, 1, 2), at(2, 1, 3), api.ErrOrder},
		{"a lesser end", at(3, 1, 2), at(3, 1, 1), api.ErrOrder},
		{"other Breaks", at(3, 1, 2), at(3, 2, 2), api.ErrForm},
		{"fewer Breaks", at(3, 1, 2), at(3, 0, 2), api.ErrForm},
		{"a break that slid away", broken(at(3, 1, 2), 0), at(4, 2, 1), api.OK},
		{"a break that slid away, and is not counted", broken(at(3, 1, 2), 0), at(4, 1, 1), api.ErrForm},
		{"a break that is there", broken(at(3, 1, 2), 1), broken(at(4, 1, 1), 0), api.OK},
		{"a break that is there, and counted", broken(at(3, 1, 2), 1), broken(at(4, 2, 1), 0), api.ErrForm},
		{"all breaks slid away", broken(at(3, 1, 2), 0, 1), at(5, 3, 1), api.OK},
		{"all breaks slid away, with more", broken(at(3, 1, 2), 0, 1), at(6, 9, 1), api.OK},
		{"all breaks slid away, not all are counted", broken(at(3, 1, 2), 0, 1), at(5, 2, 1), api.ErrOrder},
		{"all breaks slid away, then one", broken(at(3, 1, 2), 0, 1), broken(at(5, 2, 1), 0), api.ErrOrder},
		{"all breaks slid away, none left", broken(at(3, 1, 2), 0, 1), at(5, 2, 0), api.ErrOrder},
		{"without entries, fewer Breaks", at(3, 1, 0), at(3, 0, 1), api.ErrOrder},
		{"without entries, fewer Breaks, far ahead", at(3, 1, 0), at(9, 0, 1), api.ErrOrder},
		{"without entries, more Breaks", at(3, 1, 0), at(3, 2, 1), api.OK},
		{"the first entry clashes before its break number", broken(at(3, 1, 2), 0), at(3, 1, 2), api.ErrClash},
		{"the break number of an entry before the next one", at(3, 1, 2), broken(at(3, 2, 2), 1), api.ErrForm},
		{"the greatest numbers", at(maxFirst, api.MaxTime, 2), at(maxFirst, api.MaxTime, 3), api.OK},
		{"from the least to the greatest numbers", at(0, 0, 2), at(maxFirst, api.MaxTime, 3), api.OK},
	} {
		isFault(t, "Follows "+c.what, list.Follows(c.old, c.now), c.want)
	}
	short := edited(all(), 0, func(e *api.Entry) { e.Extra = nil })
	empty := edited(all(), 0, func(e *api.Entry) { e.Extra = []string{} })
	isFault(t, "Follows with an Extra that is empty", list.Follows(ended(short), ended(empty)), api.OK)
}

// follows says what Follows has to say of lists that are right, number by number.
func follows(old, now api.List) api.Fault {
	switch {
	case old.Target != now.Target:
		return api.ErrType
	case old.Ended && !equal(old, now):
		return api.ErrState
	case now.First < old.First || now.First+len(now.Entries) < old.First+len(old.Entries):
		return api.ErrOrder
	}
	isBoth := false
	for number := old.First; number < old.First+len(old.Entries); number++ {
		place := number - now.First
		if place < 0 || place >= len(now.Entries) {
			continue
		}
		isBoth = true
		if !equal(old.Entries[number-old.First], now.Entries[place]) {
			return api.ErrClash
		}
		if breakOf(old, number-old.First) != breakOf(now, place) {
			return api.ErrForm
		}
	}
	last := old.Breaks
	if len(old.Entries) > 0 {
		last = breakOf(old, len(old.Entries)-1)
	}
	if !isBoth && now.Breaks < last {
		return api.ErrOrder
	}
	return api.OK
}

// grown returns what a list can have become after some changes.
func grown(t *testing.T, r *rand.Rand, l api.List, changes int) api.List {
	t.Helper()
	for range changes {
		var f api.Fault
		switch n := r.Intn(10); {
		case l.Ended || n == 0 && r.Intn(4) == 0:
			l, f = list.End(l)
		case n < 4:
			l, _, f = list.Slide(l, r.Intn(lengthOf(l.Entries)+2))
		default:
			l, f = list.Add(l, drawEntry(r, fmt.Sprint("s", l.First+len(l.Entries))))
		}
		isFault(t, "a change", f, api.OK)
	}
	return l
}

// What Add, Slide and End make Follows what was there before; other lists do as far as they fit.
func TestManyFollow(t *testing.T) {
	r := rand.New(rand.NewSource(8))
	faults := map[api.Fault]int{}
	for range 20000 {
		old := draw(r, 5)
		old.Ended = old.Ended && r.Intn(3) == 0
		now := grown(t, r, old, r.Intn(8))
		isFault(t, "Follows", list.Follows(old, now), api.OK)
		now = clone(now)
		switch r.Intn(6) {
		case 0:
			now.First += r.Intn(5) - 2
		case 1:
			now.Breaks += r.Intn(5) - 2
		case 2:
			now = draw(r, 5)
			now.Target = old.Target
		case 3:
			if n := len(now.Entries); n > 0 {
				now.Entries[r.Intn(n)] = drawEntry(r, fmt.Sprint("s", r.Intn(5)))
			}
		case 4:
			now.Entries = now.Entries[:r.Intn(len(now.Entries)+1)]
		case 5:
			old, now = now, old
		}
		now.First, now.Breaks = max(now.First, 0), max(now.Breaks, 0)
		want := follows(old, now)
		faults[want]++
		isFault(t, fmt.Sprint("Follows ", old, now), list.Follows(old, now), want)
	}
	for _, f := range []api.Fault{api.OK, api.ErrState, api.ErrOrder, api.ErrClash, api.ErrForm} {
		if faults[f] < 100 {
			t.Error("too few with fault", f, faults)
		}
	}
}

// Slide takes as many entries as it can.
func TestManySlides(t *testing.T) {
	r := rand.New(rand.NewSource(9))
	for range 5000 {
		l := draw(r, 6)
		l.Ended = false
		keep := r.Intn(lengthOf(l.Entries) + 3)
		want := 0
		for n := range len(l.Entries) + 1 {
			if lengthOf(l.Entries[n:]) >= keep {
				want = n
			}
		}
		got, gone, f := list.Slide(l, keep)
		if f != api.OK || gone != want || got.First != l.First+want || !equal(got.Entries, l.Entries[want:]) {
			t.Errorf("Slide %v %d: %v %d %d", l, keep, got, gone, f)
		}
		for i := range got.Entries {
			if breakOf(got, i) != breakOf(l, i+gone) {
				t.Error("Slide changes a break number", l, got)
			}
		}
	}
}
