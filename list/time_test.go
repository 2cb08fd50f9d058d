package list_test

import (
	"fmt"
	"math/rand"
	"testing"

	"headend/api"
	"headend/list"
)

func TestLength(t *testing.T) {
	n, f := list.Length(all())
	is(t, "Length", n, f, 4000+6000+6499+1)
	n, f = list.Length(none())
	is(t, "Length", n, f, 0)
	longest := many(api.MaxEntries)
	for i := range longest.Entries {
		longest.Entries[i].Milli = api.MaxMillis
	}
	n, f = list.Length(longest)
	is(t, "Length", n, f, api.MaxEntries*api.MaxMillis)
	n, f = list.Length(bad())
	isNot(t, "Length", n, f, api.ErrForm)
}

// dated returns a list of entries of 10 milliseconds with dates, of which those with some places have a Break.
func dated(dates []int, breaks ...int) api.List {
	l := listOf(0)
	for i, date := range dates {
		l.Entries = append(l.Entries, api.Entry{Uri: fmt.Sprint("s", i), Milli: 10, Date: date})
	}
	for _, place := range breaks {
		l.Entries[place].Break = true
	}
	return l
}

func TestDates(t *testing.T) {
	for _, c := range []struct {
		what        string
		dates, want []int
		breaks      []int
	}{
		{"none", nil, nil, nil},
		{"not told", []int{-1, -1}, []int{-1, -1}, nil},
		{"told", []int{7}, []int{7}, nil},
		{"told at a Break", []int{7}, []int{7}, []int{0}},
		{"told, of each one", []int{70, 3, 5}, []int{70, 3, 5}, nil},
		{"forwards", []int{7, -1, -1}, []int{7, 17, 27}, nil},
		{"forwards from the last one that is told", []int{7, 9, -1, 50, -1}, []int{7, 9, 19, 50, 60}, nil},
		{"forwards from a Break", []int{-1, 7, -1}, []int{-1, 7, 17}, []int{1}},
		{"not forwards into a Break", []int{7, -1, -1}, []int{7, -1, -1}, []int{1}},
		{"not forwards behind a Break", []int{7, -1, -1, -1}, []int{7, 17, -1, -1}, []int{2}},
		{"backwards", []int{-1, -1, 50}, []int{30, 40, 50}, nil},
		{"backwards to a Break", []int{-1, -1, 50}, []int{30, 40, 50}, []int{0}},
		{"not backwards from a Break", []int{-1, -1, 50}, []int{-1, -1, 50}, []int{2}},
		{"not backwards before a Break", []int{-1, -1, -1, 50}, []int{-1, 30, 40, 50}, []int{1}},
		{"backwards from the first one that is told", []int{-1, 50, 90, -1}, []int{40, 50, 90, 100}, nil},
		{"forwards goes first", []int{50, -1, 90}, []int{50, 60, 90}, nil},
		{"each stretch for itself", []int{-1, 20, -1, 70, -1, -1, 90, -1}, []int{10, 20, 60, 70, -1, -1, 90, 100}, []int{0, 2, 4, 6}},
		{"backwards to 0", []int{-1, 10}, []int{0, 10}, nil},
		{"forwards to the last date", []int{api.MaxMilli - 10, -1}, []int{api.MaxMilli - 10, api.MaxMilli}, nil},
		{"the last date", []int{api.MaxMilli}, []int{api.MaxMilli}, nil},
	} {
		l, f := list.Dates(dated(c.dates, c.breaks...))
		is(t, "Dates "+c.what, l, f, c.want)
	}
	for what, dates := range map[string][]int{
		"before 0":                      {-1, 9},
		"far before 0":                  {-1, 5},
		"before 0, of the second one":   {50, -1, -1, 0}, // not backwards
		"behind the last one":           {api.MaxMilli - 9, -1},
		"behind the last one, then not": {api.MaxMilli, -1, 5},
		"two before 0":                  {-1, -1, 10},
		"0":                             {-1, 0},
		"before 0 behind others":        {7, -1, -1, 5},
	} {
		breaks := []int{}
		if len(dates) == 4 {
			breaks = []int{2}
		}
		l, f := list.Dates(dated(dates, breaks...))
		isNot(t, "Dates "+what, l, f, api.ErrRange)
	}
	l, f := list.Dates(bad())
	isNot(t, "Dates", l, f, api.ErrForm)
	// Lengths are those of the entries between which a date is carried.
	x := listOf(0, 1, 20, 300, 4000)
	x.Entries[2].Date = 1000
	l, f = list.Dates(x)
	is(t, "Dates", l, f, []int{979, 980, 1000, 1300})
}

// knownDate returns the date of an entry, by the nearest one of its stretch before it that is told, or else the first one behind it; false, if there is none.
func knownDate(l api.List, place int) (int, bool) {
	for i := place; i >= 0 && breakOf(l, i) == breakOf(l, place); i-- {
		if date := l.Entries[i].Date; date >= 0 {
			return date + lengthOf(l.Entries[i:place]), true
		}
	}
	for i := place; i < len(l.Entries) && breakOf(l, i) == breakOf(l, place); i++ {
		if date := l.Entries[i].Date; date >= 0 {
			return date - lengthOf(l.Entries[place:i]), true
		}
	}
	return -1, false
}

func TestManyDates(t *testing.T) {
	r := rand.New(rand.NewSource(7))
	faults := map[api.Fault]int{}
	for range 5000 {
		l := draw(r, 8)
		move := []int{-110, -100, 0, api.MaxMilli - 200, api.MaxMilli - 210}[r.Intn(5)]
		for i, e := range l.Entries {
			if e.Date >= 0 {
				l.Entries[i].Date = min(max(e.Date+move, 0), api.MaxMilli)
			}
		}
		var want []int
		fault := api.OK
		for i := range l.Entries {
			date, isKnown := knownDate(l, i)
			if isKnown && (date < 0 || date > api.MaxMilli) {
				fault = api.ErrRange
			}
			want = append(want, date)
		}
		dates, f := list.Dates(l)
		faults[f]++
		if fault != api.OK {
			isNot(t, fmt.Sprint("Dates ", l), dates, f, fault)
		} else {
			is(t, fmt.Sprint("Dates ", l), dates, f, want)
		}
	}
	if faults[api.OK] < 100 || faults[api.ErrRange] < 100 {
		t.Error("too few", faults)
	}
}

func TestAt(t *testing.T) {
	l := listOf(5, 4, 1, 6)
	for milli, want := range []pair{{0, 0}, {0, 1}, {0, 2}, {0, 3}, {1, 0}, {2, 0}, {2, 1}, {2, 2}, {2, 3}, {2, 4}, {2, 5}} {
		i, n, f := list.At(l, milli)
		is(t, fmt.Sprint("At ", milli), pair{i, n}, f, want)
	}
	for _, c := range []struct {
		l     api.List
		milli int
		want  api.Fault
	}{
		{l, 11, api.ErrNone}, {l, 12, api.ErrNone}, {l, api.MaxTime + 1, api.ErrNone}, {l, -1, api.ErrRange}, {l, numbers[0], api.ErrRange}, {l, numbers[len(numbers)-1], api.ErrNone},
		{none(), 0, api.ErrNone}, {none(), -1, api.ErrRange}, {bad(), -1, api.ErrForm}, {bad(), 0, api.ErrForm},
	} {
		i, n, f := list.At(c.l, c.milli)
		isNot(t, fmt.Sprint("At ", c.milli), pair{i, n}, f, c.want)
	}
}
