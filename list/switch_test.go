package list_test

import (
	"fmt"
	"math/rand"
	"testing"

	"headend/api"
	"headend/list"
)

// stretched returns a list with some break before its first entry, of which those with some places have a Break.
func stretched(first, breaks, n int, places ...int) api.List {
	l := listOf(first)
	l.Breaks = breaks
	for i := range n {
		l.Entries = append(l.Entries, entry(fmt.Sprint("s", first+i), 10))
	}
	for _, place := range places {
		l.Entries[place].Break = true
	}
	return l
}

// told returns a list of which an entry has a date.
func told(l api.List, place, date int) api.List {
	return edited(l, place, func(e *api.Entry) { e.Date = date })
}

func TestSwitch(t *testing.T) {
	plain := stretched(0, 0, 4)
	ahead := stretched(0, 0, 6, 2) // the stretches 0 (0, 1) and 1 (2 to 5)
	same := stretched(100, 0, 6, 2)
	for _, c := range []struct {
		what   string
		a, b   api.List
		number int
		want   int
	}{
		// by places
		{"the same list", plain, plain, 2, 2},
		{"the first stretch", ahead, ahead, 1, 1},
		{"the second stretch", ahead, ahead, 5, 5},
		{"the second stretch at another place", ahead, same, 4, 104},
		{"and back", same, ahead, 104, 4},
		{"the beginning of the stretch", same, ahead, 102, 2},
		{"a Break at the first entry", stretched(7, 0, 3, 0), ahead, 9, 4},
		{"to a Break at the first entry", ahead, stretched(7, 0, 3, 0), 4, 9},
		{"to more Breaks before", stretched(0, 4, 3), stretched(0, 2, 9, 2, 5), 0, 5},
		{"from more Breaks before", stretched(0, 2, 9, 2, 5), stretched(0, 4, 3), 6, 1},
		// by dates
		{"the same date", told(plain, 0, 100), told(plain, 0, 100), 2, 2},
		{"the same date of another First", told(plain, 0, 100), told(stretched(50, 0, 4), 1, 110), 2, 52},
		{"within an entry", told(plain, 0, 109), told(plain, 0, 100), 1, 1},
		{"just before the next one", told(plain, 0, 119), told(plain, 0, 100), 0, 1},
		{"at the next one", told(plain, 0, 120), told(plain, 0, 100), 0, 2},
		{"behind the end", told(plain, 0, 900), told(plain, 0, 100), 0, 3},
		{"the last one that is not greater", told(plain, 0, 100), told(told(plain, 1, 90), 2, 300), 0, 1},
		{"dates that go back", told(plain, 0, 100), told(told(plain, 0, 150), 2, 80), 0, 3},
		{"dates of the stretch alone", told(ahead, 2, 100), told(told(ahead, 0, 100), 2, 95), 2, 2},
		{"dates win over places", told(plain, 0, 120), told(plain, 0, 100), 1, 3},
		{"dates of one list alone", told(plain, 0, 100), plain, 2, 2},
		{"dates of the other list alone", plain, told(plain, 0, 500), 2, 2},
		{"dates of another stretch of the other list", told(ahead, 2, 100), told(ahead, 0, 100), 3, 3},
		{"dates of another stretch", told(ahead, 0, 100), told(ahead, 2, 100), 3, 3},
		{"dates of a Gap", told(edited(plain, 1, func(e *api.Entry) { e.Gap = true }), 0, 100), told(plain, 0, 100), 1, 1},
		{"dates before and behind the beginning", told(stretched(8, 0, 3), 0, 100), told(stretched(3, 0, 3), 0, 100), 9, 4},
		{"the greatest numbers", told(stretched(maxFirst, api.MaxTime, 2), 0, api.MaxMilli-10), told(stretched(maxFirst, api.MaxTime, 2), 0, api.MaxMilli-10), maxFirst + 1, maxFirst + 1},
	} {
		n, f := list.Switch(c.a, c.b, c.number)
		is(t, "Switch "+c.what, n, f, c.want)
	}
}

func TestSwitchFaults(t *testing.T) {
	plain := stretched(0, 0, 4)
	ahead := stretched(0, 0, 6, 2)
	isOld := told(plain, 0, 100)
	for _, c := range []struct {
		what   string
		a, b   api.List
		number int
		want   api.Fault
	}{
		{"a wrong list", bad(), changed(plain, func(l *api.List) { l.Target = 0 }), -1, api.ErrForm},
		{"a wrong other list", plain, bad(), -1, api.ErrForm},
		{"number -1", plain, plain, -1, api.ErrNone},
		{"the least number", plain, plain, numbers[0], api.ErrNone},
		{"the greatest number", plain, plain, numbers[len(numbers)-1], api.ErrNone},
		{"one before the first number", stretched(5, 0, 2), plain, 4, api.ErrNone},
		{"one behind the last number", stretched(5, 0, 2), plain, 7, api.ErrNone},
		{"a list without entries", stretched(5, 0, 0), plain, 5, api.ErrNone},
		{"another list without entries", plain, stretched(0, 0, 0), 1, api.ErrNone},
		{"a lesser break number", plain, stretched(0, 1, 3), 1, api.ErrNone},
		{"a greater break number", ahead, plain, 3, api.ErrNone},
		{"a break number that has no entry", ahead, stretched(0, 0, 2, 0), 0, api.ErrNone},
		{"a stretch that slid away", ahead, stretched(2, 0, 2, 0), 1, api.ErrNone},
		// no entry is found
		{"a place behind the stretch", plain, ahead, 2, api.ErrState},
		{"a place behind the list", plain, stretched(0, 0, 2), 2, api.ErrState},
		{"no beginning", stretched(1, 0, 3), plain, 2, api.ErrState},
		{"no other beginning", plain, stretched(1, 0, 3), 2, api.ErrState},
		{"no beginnings", stretched(1, 0, 3), stretched(1, 0, 3), 2, api.ErrState},
		{"no beginning, but an earlier stretch", stretched(1, 0, 4, 2), plain, 2, api.ErrState},
		{"all dates greater", isOld, told(plain, 0, 101), 0, api.ErrState},
		{"all dates of the stretch greater", told(ahead, 2, 100), told(told(ahead, 0, 50), 2, 101), 2, api.ErrState},
		{"all dates greater, but there is the place", told(plain, 0, 0), told(plain, 0, 100), 3, api.ErrState},
		// dates that are none
		{"a date", told(plain, 3, 29), plain, 1, api.ErrRange},
		{"another date", plain, told(plain, 0, api.MaxMilli-29), 1, api.ErrRange},
		{"a date of another stretch", told(ahead, 5, 29), plain, 1, api.ErrRange},
		{"a date of another stretch of the other list", plain, told(ahead, 5, 29), 2, api.ErrRange},
		{"a date, but there is no number", told(plain, 3, 29), plain, 4, api.ErrNone},
		{"a date, but there is no stretch", told(plain, 3, 29), stretched(0, 1, 3), 1, api.ErrNone},
		{"another date, but there is no stretch", plain, told(stretched(0, 1, 3), 2, 19), 1, api.ErrNone},
	} {
		n, f := list.Switch(c.a, c.b, c.number)
		isNot(t, "Switch "+c.what, n, f, c.want)
	}
}

// switched says what Switch has to find, or false.
func switched(a, b api.List, place int) (int, bool) {
	number := breakOf(a, place)
	var aPlaces, bPlaces []int
	for i := range a.Entries {
		if breakOf(a, i) == number {
			aPlaces = append(aPlaces, i)
		}
	}
	for i := range b.Entries {
		if breakOf(b, i) == number {
			bPlaces = append(bPlaces, i)
		}
	}
	date, isKnown := knownDate(a, place)
	found, isOther := -1, false
	for _, i := range bPlaces {
		other, isDate := knownDate(b, i)
		isOther = isOther || isDate
		if isDate && other <= date {
			found = i
		}
	}
	if isKnown && isOther {
		return b.First + found, found >= 0
	}
	begins := func(l api.List, places []int) bool {
		return l.Entries[places[0]].Break || places[0] == 0 && l.First == 0
	}
	k := place - aPlaces[0]
	if begins(a, aPlaces) && begins(b, bPlaces) && k < len(bPlaces) {
		return b.First + bPlaces[k], true
	}
	return 0, false
}

func TestManySwitches(t *testing.T) {
	r := rand.New(rand.NewSource(14))
	faults := map[api.Fault]int{}
	for range 20000 {
		a, b := draw(r, 8), draw(r, 8)
		if r.Intn(2) == 0 {
			a.First = 0
		}
		if r.Intn(2) == 0 {
			b.First = 0
		}
		number := a.First + r.Intn(9)
		want, fault := 0, api.OK
		place := number - a.First
		hasStretch := false
		for i := range b.Entries {
			hasStretch = hasStretch || place < len(a.Entries) && breakOf(b, i) == breakOf(a, place)
		}
		if !hasStretch {
			fault = api.ErrNone
		} else if n, isFound := switched(a, b, place); isFound {
			want = n
		} else {
			fault = api.ErrState
		}
		faults[fault]++
		n, f := list.Switch(a, b, number)
		if fault != api.OK {
			isNot(t, fmt.Sprint("Switch ", a, b, number), n, f, fault)
		} else {
			is(t, fmt.Sprint("Switch ", a, b, number), n, f, want)
		}
	}
	for _, f := range []api.Fault{api.OK, api.ErrNone, api.ErrState} {
		if faults[f] < 1000 {
			t.Error("too few with fault", f, faults)
		}
	}
}
