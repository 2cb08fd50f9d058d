package mark

import (
	"slices"

	"headend/api"
	"headend/check"
)

// beginsOf returns the tick of a timeline with which each part begins, and its end.
func beginsOf(l []api.Part) []int {
	begins := []int{0}
	for i, p := range l {
		begins = append(begins, begins[i]+p.Length)
	}
	return begins
}

// checkAt validates a timeline, and a tick.
func checkAt(l []api.Part, time int) api.Fault {
	return check.First(
		CheckParts(l),
		check.If(!isTick(time), api.ErrRange),
	)
}

// Place returns the number of the part that has a tick of a timeline, and how many ticks of it are before this one.
func Place(l []api.Part, time int) (int, int, api.Fault) {
	if fault := checkAt(l, time); fault != api.OK {
		return 0, 0, fault
	}
	for i, p := range l {
		if time < p.Length {
			return i, time, api.OK
		}
		time -= p.Length
	}
	return 0, 0, api.ErrNone
}

func isProgramme(p api.Part) bool { return p.Ad == "" }

// Programme returns the tick of the programme that is played at a tick of a timeline, or, with false, that with which it goes on.
func Programme(l []api.Part, time int) (int, bool, api.Fault) {
	place, ticks, fault := Place(l, time)
	if fault != api.OK {
		return 0, false, fault
	}
	if isProgramme(l[place]) {
		return l[place].From + ticks, true, api.OK
	}
	if next := slices.IndexFunc(l[place:], isProgramme); next >= 0 {
		return l[place+next].From, false, api.OK
	}
	end := 0
	for _, p := range l {
		if isProgramme(p) {
			end = p.From + p.Length
		}
	}
	return end, false, api.OK
}

// placeFrom returns the number of the part that plays a tick of the programme, or the next one that it has, or -1.
func placeFrom(l []api.Part, time int) int {
	return slices.IndexFunc(l, func(p api.Part) bool { return isProgramme(p) && time < p.From+p.Length })
}

// Stitched returns the ticks of a timeline at which a tick of the programme is played.
func Stitched(l []api.Part, time int) ([]int, api.Fault) {
	if fault := checkAt(l, time); fault != api.OK {
		return nil, fault
	}
	place := placeFrom(l, time)
	if place < 0 || time < l[place].From {
		return nil, api.OK
	}
	return []int{beginsOf(l)[place] + time - l[place].From}, api.OK
}

// Resume returns with which tick of a timeline somebody begins who wants to see a tick of the programme, and has seen some advertisements.
func Resume(l []api.Part, seen []int, time int) (int, api.Fault) {
	fault := checkAt(l, time)
	if fault != api.OK {
		return 0, fault
	}
	isSeen := map[int]bool{}
	fault = check.Each(seen, func(_, place int) api.Fault {
		if !check.Within(place, 0, len(l)-1) {
			return api.ErrRange
		}
		isSeen[place] = true
		return check.If(isProgramme(l[place]), api.ErrType)
	})
	if fault != api.OK {
		return 0, fault
	}
	begins := beginsOf(l)
	place := placeFrom(l, time)
	if place < 0 {
		return begins[len(l)], api.OK
	}
	first := place
	for first > 0 && !isProgramme(l[first-1]) {
		first--
	}
	for ad := first; ad < place; ad++ {
		if !isSeen[ad] {
			return begins[ad], api.OK
		}
	}
	return begins[place] + max(time-l[place].From, 0), api.OK
}
