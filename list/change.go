package list

import (
	"slices"

	"headend/api"
	"headend/check"
)

// Add puts an entry at the end of a list.
func Add(l api.List, e api.Entry) (api.List, api.Fault) {
	added := with(l, slices.Concat(l.Entries, []api.Entry{e}))
	fault := check.First(
		Check(l),
		check.If(l.Ended, api.ErrState),
		Check(added),
	)
	if fault != api.OK {
		return api.List{}, fault
	}
	return added, api.OK
}

// Slide takes entries away from the beginning of a list, so that it keeps so many milliseconds, and returns how many.
func Slide(l api.List, keep int) (api.List, int, api.Fault) {
	fault := check.First(
		Check(l),
		check.If(!check.Within(keep, 0, api.MaxTime), api.ErrRange),
		check.If(l.Ended, api.ErrState),
	)
	if fault != api.OK {
		return api.List{}, 0, fault
	}
	left, gone := lengthOf(l.Entries), 0
	slid := l
	for _, e := range l.Entries {
		left -= e.Milli
		if left < keep {
			break
		}
		gone++
		if e.Break {
			slid.Breaks++
		}
	}
	slid.First += gone
	if fault := checkStart(slid); fault != api.OK {
		return api.List{}, 0, fault
	}
	return with(slid, l.Entries[gone:]), gone, api.OK
}

// End says that nothing comes behind the last entry of a list.
func End(l api.List) (api.List, api.Fault) {
	if fault := Check(l); fault != api.OK {
		return api.List{}, fault
	}
	l.Ended = true
	return with(l, l.Entries), api.OK
}

// Follows says what is wrong, if a list cannot be what an old one has become.
func Follows(old, now api.List) api.Fault {
	fault := check.First(
		Check(old),
		Check(now),
		check.If(now.Target != old.Target, api.ErrType),
		check.If(old.Ended && !isSame(old, now), api.ErrState),
		check.If(now.First < old.First || behind(now) < behind(old), api.ErrOrder),
	)
	if fault != api.OK {
		return fault
	}
	oldBreaks, oldLast := breakNumbers(old)
	nowBreaks, _ := breakNumbers(now)
	gone := now.First - old.First
	if gone >= len(old.Entries) {
		return check.If(now.Breaks < oldLast, api.ErrOrder)
	}
	for i, e := range old.Entries[gone:] {
		fault := check.First(
			check.If(!isSameEntry(now.Entries[i], e), api.ErrClash),
			check.If(nowBreaks[i] != oldBreaks[gone+i], api.ErrForm),
		)
		if fault != api.OK {
			return fault
		}
	}
	return api.OK
}
