package list

import (
	"slices"

	"headend/api"
	"headend/check"
)

// StartAt returns the place of the entry with which a client begins, so many milliseconds before the end, and how many of this entry are skipped.
func StartAt(l api.List, back int) (int, int, api.Fault) {
	fault := check.First(
		Check(l),
		check.If(!isTime(back), api.ErrRange),
		check.If(len(l.Entries) == 0, api.ErrNone),
	)
	if fault != api.OK {
		return 0, 0, fault
	}
	moment := lengthOf(l.Entries) - back
	if l.Ended || moment < 0 {
		return 0, 0, api.OK
	}
	if back == 0 {
		last := len(l.Entries) - 1
		return last, l.Entries[last].Milli, api.OK
	}
	return At(l, moment)
}

func isTime(n int) bool { return check.Within(n, 0, api.MaxTime) }

// checkClient validates what a client has of its own.
func checkClient(c api.Client) api.Fault {
	return check.First(
		check.If(!isTime(c.Next) || !isTime(c.Lost), api.ErrRange),
		check.If(len(c.Queue) > api.MaxQueue, api.ErrLarge),
	)
}

// Load gives a client a list.
func Load(c api.Client, l api.List, back int) (api.Client, api.Fault) {
	fault := check.First(
		Check(l),
		check.If(!isTime(back), api.ErrRange),
		checkClient(c),
	)
	if fault != api.OK {
		return api.Client{}, fault
	}
	next, fault := nextOf(c, l, back)
	if fault != api.OK {
		return api.Client{}, fault
	}
	lost := max(l.First-next, 0)
	next += lost
	taken := itemsFrom(l, next)
	if len(c.Queue)+len(taken) > api.MaxQueue {
		return api.Client{}, api.ErrFull
	}
	if len(taken) > 0 {
		taken[0].Entry.Break = taken[0].Entry.Break || lost > 0
		next = behind(l)
	}
	queue := append(copiedItems(c.Queue), taken...)
	return api.Client{Begun: true, Next: next, Last: with(l, l.Entries), Queue: queue, Lost: c.Lost + lost}, api.OK
}

// nextOf returns the number of the next entry that a client wants to have, when it gets a list.
func nextOf(c api.Client, l api.List, back int) (int, api.Fault) {
	if c.Begun {
		return c.Next, Follows(c.Last, l)
	}
	if c.Next != 0 || c.Lost != 0 || len(c.Queue) > 0 || !isSame(c.Last, api.List{}) {
		return 0, api.ErrForm
	}
	place, _, fault := StartAt(l, back)
	return l.First + place, fault
}

// itemsFrom returns copies of the entries of a list from a number on, which is not before the first one.
func itemsFrom(l api.List, number int) []api.Item {
	var items []api.Item
	from := min(number-l.First, len(l.Entries))
	for i, e := range copied(l.Entries[from:]) {
		items = append(items, api.Item{Number: l.First + from + i, Entry: e})
	}
	return items
}

func copiedItems(items []api.Item) []api.Item {
	items = slices.Clone(items)
	for i := range items {
		items[i].Entry.Extra = slices.Clone(items[i].Entry.Extra)
	}
	return items
}

// Play takes the first one of the items that a client has to play.
func Play(c api.Client) (api.Client, api.Item, api.Fault) {
	fault := check.First(
		checkClient(c),
		check.If(len(c.Queue) == 0, api.ErrNone),
	)
	if fault != api.OK {
		return api.Client{}, api.Item{}, fault
	}
	played := copiedItems(c.Queue[:1])
	c.Queue = copiedItems(c.Queue[1:])
	c.Last = with(c.Last, c.Last.Entries)
	return c, played[0], api.OK
}
