package mark

import (
	"maps"
	"slices"

	"headend/api"
	"headend/check"
)

const (
	quarters = 4 // of an advertisement
	kinds    = api.EventEnd - api.EventStart + 1
)

// needed returns how many of the ticks of an advertisement are played when it comes to a Kind.
func needed(length, kind int) int {
	begun := length * (kind - api.EventStart)
	return max((begun+quarters-1)/quarters, 1)
}

// Due returns the events that come while some ticks of a timeline are played.
func Due(l []api.Part, from, to int) ([]api.Event, api.Fault) {
	fault := check.First(
		CheckParts(l),
		check.If(!isTick(from) || !check.Within(to, from, api.MaxTime), api.ErrRange),
	)
	if fault != api.OK {
		return nil, fault
	}
	var due []api.Event
	begins := beginsOf(l)
	for place, p := range l {
		if isProgramme(p) {
			continue
		}
		for kind := api.EventStart; kind <= api.EventEnd; kind++ {
			last := begins[place] + needed(p.Length, kind) - 1
			if from <= last && last < to {
				due = append(due, api.Event{Place: place, Ad: p.Ad, Kind: kind})
			}
		}
	}
	return due, api.OK
}

// viewing is a part that was played in a session.
type viewing struct {
	session string
	place   int
}

// told says for each Kind whether an event told it.
type told [kinds]bool

// reached returns how many Kinds were told before the first one that was not.
func (t told) reached() int {
	for i, is := range t {
		if !is {
			return i
		}
	}
	return len(t)
}

// Counts counts the events of sessions with a timeline, and returns the numbers of those that say nothing new, or concern nothing.
func Counts(l []api.Part, events []api.Event) ([]api.Count, []int, api.Fault) {
	fault := CheckParts(l)
	if fault == api.OK {
		fault = checkEvents(events)
	}
	if fault != api.OK {
		return nil, nil, fault
	}
	counts := map[string][kinds]int{}
	for _, p := range l {
		if !isProgramme(p) {
			counts[p.Ad] = [kinds]int{}
		}
	}
	var idle []int
	tellings := map[viewing]told{}
	for i, e := range events {
		v := viewing{e.Session, e.Place}
		now := tellings[v]
		concerns := check.Within(e.Place, 0, len(l)-1) && l[e.Place].Ad == e.Ad
		if !concerns || now[e.Kind-api.EventStart] {
			idle = append(idle, i)
			continue
		}
		before := now.reached()
		now[e.Kind-api.EventStart] = true
		tellings[v] = now
		count := counts[e.Ad]
		for kind := before; kind < now.reached(); kind++ {
			count[kind]++
		}
		counts[e.Ad] = count
	}
	return listOf(counts), idle, api.OK
}

func checkEvents(events []api.Event) api.Fault {
	if len(events) > api.MaxEvents {
		return api.ErrLarge
	}
	return check.Each(events, func(_ int, e api.Event) api.Fault {
		return check.First(
			check.If(!check.IsName(e.Session), api.ErrName),
			check.If(!check.IsName(e.Ad), api.ErrName),
			check.If(!check.Within(e.Kind, api.EventStart, api.EventEnd), api.ErrKind),
		)
	})
}

// listOf returns counts by the names of the advertisements.
func listOf(counts map[string][kinds]int) []api.Count {
	var l []api.Count
	for _, ad := range slices.Sorted(maps.Keys(counts)) {
		l = append(l, api.Count{Ad: ad, Kinds: counts[ad]})
	}
	return l
}
