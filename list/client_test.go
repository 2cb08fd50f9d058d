package list_test

import (
	"fmt"
	"math/rand"
	"slices"
	"testing"

	"headend/api"
	"headend/list"
)

func TestStartAt(t *testing.T) {
	l := listOf(5, 4, 1, 6)
	for back, want := range []pair{{2, 6}, {2, 5}, {2, 4}, {2, 3}, {2, 2}, {2, 1}, {2, 0}, {1, 0}, {0, 3}, {0, 2}, {0, 1}, {0, 0}, {0, 0}, {0, 0}} {
		i, n, f := list.StartAt(l, back)
		is(t, fmt.Sprint("StartAt ", back), pair{i, n}, f, want)
		i, n, f = list.StartAt(ended(l), back)
		is(t, fmt.Sprint("StartAt of an Ended one ", back), pair{i, n}, f, pair{0, 0})
	}
	i, n, f := list.StartAt(l, api.MaxTime)
	is(t, "StartAt", pair{i, n}, f, pair{0, 0})
	i, n, f = list.StartAt(listOf(0, 7), 0)
	is(t, "StartAt", pair{i, n}, f, pair{0, 7})
	for _, c := range []struct {
		what string
		l    api.List
		back int
		want api.Fault
	}{
		{"a wrong one", bad(), -1, api.ErrForm},
		{"back -1", l, -1, api.ErrRange},
		{"back too great", l, api.MaxTime + 1, api.ErrRange},
		{"back -1 of an Ended one", ended(l), -1, api.ErrRange},
		{"none", none(), 0, api.ErrNone},
		{"none, and Ended", ended(none()), 0, api.ErrNone},
		{"none, and back -1", none(), -1, api.ErrRange},
		{"none, and back too great", none(), api.MaxTime + 1, api.ErrRange},
	} {
		i, n, f := list.StartAt(c.l, c.back)
		isNot(t, "StartAt "+c.what, pair{i, n}, f, c.want)
	}
}

// itemsOf returns the entries of a list from a place on as items.
func itemsOf(l api.List, from int) []api.Item {
	var items []api.Item
	for i := from; i < len(l.Entries); i++ {
		items = append(items, api.Item{Number: l.First + i, Entry: l.Entries[i]})
	}
	return items
}

// broken returns items of which the first one has Break.
func broken(items []api.Item) []api.Item {
	items = slices.Clone(items)
	items[0].Entry.Break = true
	return items
}

func TestLoadFirst(t *testing.T) {
	l := all()
	for back, from := range map[int]int{0: 3, 1: 3, 2: 2, 6500: 2, 6501: 1, 12500: 1, 12501: 0, 16500: 0, 16501: 0, api.MaxTime: 0} {
		c, f := list.Load(api.Client{}, l, back)
		is(t, fmt.Sprint("Load ", back), c, f, api.Client{Begun: true, Next: 9, Last: l, Queue: itemsOf(l, from)})
		c, f = list.Load(api.Client{}, ended(l), back)
		is(t, fmt.Sprint("Load of an Ended one ", back), c, f, api.Client{Begun: true, Next: 9, Last: ended(l), Queue: itemsOf(l, 0)})
	}
	c, f := list.Load(api.Client{Last: api.List{Entries: []api.Entry{}}, Queue: []api.Item{}}, l, 0)
	is(t, "Load", c, f, api.Client{Begun: true, Next: 9, Last: l, Queue: itemsOf(l, 3)})
	last := listOf(maxFirst, slices.Repeat([]int{1}, api.MaxEntries)...)
	c, f = list.Load(api.Client{}, last, api.MaxTime)
	is(t, "Load", c, f, api.Client{Begun: true, Next: api.MaxTime, Last: last, Queue: itemsOf(last, 0)})
}

func TestLoadLater(t *testing.T) {
	l := listOf(5, 1, 2, 3)
	slid := func(first, n int) api.List { return listOf(first, slices.Repeat([]int{7}, n)...) }
	queue := []api.Item{{Number: 4, Entry: entry("x", 1)}}
	for _, c := range []struct {
		what   string
		client api.Client
		l      api.List
		want   api.Client
	}{
		{"nothing new", api.Client{Next: 8}, l, api.Client{Next: 8}},
		{"nothing new, ended", api.Client{Next: 8}, ended(l), api.Client{Next: 8}},
		{"all", api.Client{Next: 5, Queue: queue}, l, api.Client{Next: 8, Queue: append(slices.Clone(queue), itemsOf(l, 0)...)}},
		{"some", api.Client{Next: 6}, l, api.Client{Next: 8, Queue: itemsOf(l, 1)}},
		{"the example, with two of it", api.Client{Next: 6, Last: slid(0, 3)}, listOf(6, 6000, 6000), api.Client{Next: 8, Queue: itemsOf(listOf(6, 6000, 6000), 0)}},
		{"the example, with two lost", api.Client{Next: 4, Last: slid(0, 3)}, listOf(6, 6000, 6000), api.Client{Next: 8, Lost: 2, Queue: broken(itemsOf(listOf(6, 6000, 6000), 0))}},
		{"one that will come", api.Client{Next: 9, Queue: queue}, l, api.Client{Next: 9, Queue: queue}},
		{"some that will come", api.Client{Next: api.MaxTime}, l, api.Client{Next: api.MaxTime}},
		{"one missed", api.Client{Next: 8, Lost: 3, Last: l, Queue: queue}, slid(9, 2), api.Client{Next: 11, Lost: 4, Queue: append(slices.Clone(queue), broken(itemsOf(slid(9, 2), 0))...)}},
		{"none missed", api.Client{Next: 9, Lost: 3, Last: l}, slid(9, 2), api.Client{Next: 11, Lost: 3, Queue: itemsOf(slid(9, 2), 0)}},
		{"missed, and nothing is there", api.Client{Next: 8, Last: l}, slid(20, 0), api.Client{Next: 20, Lost: 12}},
		{"missed all of the first list", api.Client{Last: slid(0, 0)}, l, api.Client{Next: 8, Lost: 5, Queue: broken(itemsOf(l, 0))}},
		{"nothing missed, nothing there", api.Client{Next: 8, Last: l}, slid(8, 0), api.Client{Next: 8}},
		{"the greatest numbers", api.Client{Lost: api.MaxTime, Last: l}, slid(maxFirst, 1), api.Client{Next: maxFirst + 1, Lost: api.MaxTime + maxFirst, Queue: broken(itemsOf(slid(maxFirst, 1), 0))}},
	} {
		c.client.Begun, c.want.Begun, c.want.Last = true, true, c.l
		if c.client.Last.Target == 0 {
			c.client.Last = listOf(0)
		}
		for _, back := range []int{0, 3, api.MaxTime} { // it matters only at first
			got, f := list.Load(c.client, c.l, back)
			is(t, fmt.Sprint("Load ", c.what, " ", back), got, f, c.want)
		}
	}
	// What is lost makes a Break where there was none, and leaves one where there was one, also of a Gap.
	x := edited(slid(9, 2), 0, func(e *api.Entry) { e.Break, e.Gap, e.Extra = true, true, []string{"#X"} })
	c, f := list.Load(api.Client{Begun: true, Next: 8, Last: l}, x, 0)
	is(t, "Load", c, f, api.Client{Begun: true, Next: 11, Last: x, Queue: itemsOf(x, 0), Lost: 1})
	c, f = list.Load(api.Client{Begun: true, Next: 9, Last: l}, x, 0)
	is(t, "Load", c, f, api.Client{Begun: true, Next: 11, Last: x, Queue: itemsOf(x, 0)})
	// The list itself stays as it is.
	c, f = list.Load(api.Client{Begun: true, Next: 8, Last: l}, slid(9, 2), 0)
	is(t, "Load", c.Last, f, slid(9, 2))
}

// loading is the arguments of Load.
type loading struct {
	c    api.Client
	l    api.List
	back int
}

func load(t *testing.T) func(a loading) api.Fault {
	return func(a loading) api.Fault {
		t.Helper()
		c, f := list.Load(a.c, a.l, a.back)
		isWhole(t, "Load", c, f)
		return f
	}
}

// clientWrongs are what is wrong with any client.
func clientWrongs() []wrong[loading] {
	var all []wrong[loading]
	for _, n := range numbers {
		if n >= 0 && n <= api.MaxTime {
			continue
		}
		all = append(all,
			wrong[loading]{fmt.Sprint("Next ", n), api.ErrRange, func(a *loading) { a.c.Next = n }},
			wrong[loading]{fmt.Sprint("Lost ", n), api.ErrRange, func(a *loading) { a.c.Lost = n }},
			wrong[loading]{fmt.Sprint("back ", n), api.ErrRange, func(a *loading) { a.back = n }},
		)
	}
	return append(all, wrong[loading]{"a long Queue", api.ErrLarge, func(a *loading) { a.c.Queue = make([]api.Item, api.MaxQueue+1) }})
}

func TestLoadFaults(t *testing.T) {
	first := []wrong[loading]{{"a wrong list", api.ErrForm, func(a *loading) { a.l = bad() }}}
	first = append(first, clientWrongs()...)
	first = append(first,
		wrong[loading]{"Next", api.ErrForm, func(a *loading) { a.c.Next = 1 }},
		wrong[loading]{"Lost", api.ErrForm, func(a *loading) { a.c.Lost = 1 }},
		wrong[loading]{"a Queue", api.ErrForm, func(a *loading) { a.c.Queue = make([]api.Item, 1) }},
		wrong[loading]{"Target", api.ErrForm, func(a *loading) { a.c.Last.Target = 6 }},
		wrong[loading]{"First", api.ErrForm, func(a *loading) { a.c.Last.First = -1 }},
		wrong[loading]{"Breaks", api.ErrForm, func(a *loading) { a.c.Last.Breaks = 1 }},
		wrong[loading]{"Entries", api.ErrForm, func(a *loading) { a.c.Last.Entries = make([]api.Entry, 1) }},
		wrong[loading]{"Ended", api.ErrForm, func(a *loading) { a.c.Last.Ended = true }},
		wrong[loading]{"no entries", api.ErrNone, func(a *loading) { a.l.Entries = nil }},
	)
	inOrder(t, "Load at first", func() loading { return loading{l: all()} }, load(t), first)

	later := []wrong[loading]{{"a wrong list", api.ErrRange, func(a *loading) { a.l.Breaks = -1 }}}
	later = append(later, clientWrongs()...)
	later = append(later,
		wrong[loading]{"a wrong Last", api.ErrName, func(a *loading) { a.c.Last.Entries[0].Key = "K" }},
		wrong[loading]{"another Target", api.ErrType, func(a *loading) { a.l.Target = 7 }},
		wrong[loading]{"an Ended Last", api.ErrState, func(a *loading) { a.c.Last.Ended = true }},
		wrong[loading]{"a list with a lesser First", api.ErrOrder, func(a *loading) { a.l.First = 3 }},
		wrong[loading]{"a list with another entry", api.ErrClash, func(a *loading) { a.l.Entries[0].Uri = "x" }},
		wrong[loading]{"a list with other Breaks", api.ErrForm, func(a *loading) { a.l.Breaks = 2 }},
		wrong[loading]{"a full Queue", api.ErrFull, func(a *loading) { a.c.Queue = make([]api.Item, api.MaxQueue) }},
	)
	good := func() loading {
		last := changed(all(), func(l *api.List) { l.Entries = l.Entries[:3] })
		return loading{c: api.Client{Begun: true, Next: 8, Last: last}, l: all()}
	}
	inOrder(t, "Load later", good, load(t), later)
}

func TestLoadFull(t *testing.T) {
	l := listOf(0, 1, 1, 1)
	for room, want := range map[int]api.Fault{0: api.ErrFull, 1: api.ErrFull, 2: api.ErrFull, 3: api.OK, 4: api.OK} {
		queue := make([]api.Item, api.MaxQueue-room)
		c, f := list.Load(api.Client{Begun: true, Last: l, Queue: queue}, l, 0)
		if want != api.OK {
			isNot(t, fmt.Sprint("Load with room for ", room), c, f, want)
		} else {
			is(t, fmt.Sprint("Load with room for ", room), c.Queue, f, append(queue, itemsOf(l, 0)...))
		}
		c, f = list.Load(api.Client{Begun: true, Next: 3, Last: l, Queue: queue}, l, 0)
		is(t, "Load of nothing", c.Queue, f, queue)
	}
}

// played is what Play returns.
type played struct {
	c    api.Client
	item api.Item
}

func TestPlay(t *testing.T) {
	l := all()
	c := api.Client{Begun: true, Next: 9, Last: l, Queue: itemsOf(l, 0), Lost: 3}
	for i := range l.Entries {
		want := c
		want.Queue = itemsOf(l, i+1)
		now, item, f := list.Play(c)
		is(t, "Play", played{now, item}, f, played{want, itemsOf(l, 0)[i]})
		c = now
	}
	c, item, f := list.Play(c)
	isNot(t, "Play", played{c, item}, f, api.ErrNone)
	// Nothing else is asked.
	odd := api.Client{Next: 1, Last: bad(), Queue: []api.Item{{Number: -1}, {Number: -5}}}
	c, item, f = list.Play(odd)
	is(t, "Play", played{c, item}, f, played{api.Client{Next: 1, Last: bad(), Queue: []api.Item{{Number: -5}}}, api.Item{Number: -1}})
	c, item, f = list.Play(api.Client{Next: api.MaxTime, Lost: api.MaxTime, Queue: make([]api.Item, api.MaxQueue)})
	is(t, "Play", played{c, item}, f, played{c: api.Client{Next: api.MaxTime, Lost: api.MaxTime, Queue: make([]api.Item, api.MaxQueue-1)}})
	good := func() loading { return loading{c: api.Client{Queue: make([]api.Item, 1)}} }
	call := func(a loading) api.Fault {
		if a.back != 0 {
			a.c.Next = -1 // Play has no such argument
		}
		c, item, f := list.Play(a.c)
		isWhole(t, "Play", played{c, item}, f)
		return f
	}
	inOrder(t, "Play", good, call, append(clientWrongs(), wrong[loading]{"an empty Queue", api.ErrNone, func(a *loading) { a.c.Queue = nil }}))
}

// In whatever way a list changes, and is loaded or missed, each number from the first one on is played once, in order, still in the Queue, or lost.
func TestManyClients(t *testing.T) {
	r := rand.New(rand.NewSource(13))
	lost := 0
	for range 2000 {
		l := draw(r, 6)
		if len(l.Entries) == 0 {
			continue
		}
		l.Ended = false
		back := r.Intn(lengthOf(l.Entries) + 3)
		place, _, f := list.StartAt(l, back)
		isFault(t, "StartAt", f, api.OK)
		c, f := list.Load(api.Client{}, l, back)
		isFault(t, "Load", f, api.OK)
		first := l.First + place
		uris := map[int]string{}
		var numbers []int
		for range 12 {
			for i, e := range l.Entries {
				uris[l.First+i] = e.Uri
			}
			switch r.Intn(3) {
			case 0:
				l = grown(t, r, l, 1+r.Intn(4))
			case 1:
				before := c
				c, f = list.Load(c, l, r.Intn(9))
				isFault(t, "Load", f, api.OK)
				if taken := c.Queue[len(before.Queue):]; len(taken) > 0 && c.Lost > before.Lost && !taken[0].Entry.Break {
					t.Error("Load: no Break where something is lost")
				}
			case 2:
				if len(c.Queue) > 0 {
					var item api.Item
					c, item, f = list.Play(c)
					isFault(t, "Play", f, api.OK)
					numbers = append(numbers, item.Number)
					if uris[item.Number] != item.Entry.Uri {
						t.Error("Play", item, uris[item.Number])
					}
				}
			}
		}
		for _, item := range c.Queue {
			numbers = append(numbers, item.Number)
		}
		if !slices.IsSorted(numbers) || len(slices.Compact(numbers)) != len(numbers) || len(numbers)+c.Lost != c.Next-first {
			t.Error("played", numbers, "from", first, "to", c.Next, "lost", c.Lost)
		}
		lost += c.Lost
	}
	if lost < 100 {
		t.Error("too few", lost)
	}
}
