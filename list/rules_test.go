package list_test

import (
	"fmt"
	"strings"
	"testing"

	"headend/api"
	"headend/list"
)

// G1, G3: no argument makes a function panic, and with a fault the results are zero.
func TestAnyNumbers(t *testing.T) {
	for _, a := range numbers {
		for _, b := range numbers {
			what := fmt.Sprint(" ", a, " ", b)
			odd := api.Entry{Uri: "u", Milli: a, Date: b}
			for _, l := range []api.List{
				{Target: a, First: b, Breaks: a, Entries: []api.Entry{odd}},
				{Target: 1, First: a, Breaks: b, Entries: []api.Entry{{Uri: "u", Milli: 1, Break: true, Date: b}, {Uri: "v", Milli: 2, Date: -1}}},
				{Target: api.MaxTarget, First: maxFirst, Breaks: api.MaxTime, Entries: []api.Entry{odd, {Uri: "v", Milli: b, Date: a}}},
				all(),
				none(),
			} {
				anyList(t, what, l, a, odd)
				anyLists(t, what, l, all(), a, b)
				anyLists(t, what, all(), l, a, b)
				anyClient(t, what, l, a, b)
			}
			anyMaster(t, what, a, b)
		}
	}
}

func anyList(t *testing.T, what string, l api.List, n int, e api.Entry) {
	text, f := list.Text(l)
	isWhole(t, "Text"+what, text, f)
	length, f := list.Length(l)
	isWhole(t, "Length"+what, length, f)
	dates, f := list.Dates(l)
	isWhole(t, "Dates"+what, dates, f)
	i, milli, f := list.At(l, n)
	isWhole(t, "At"+what, pair{i, milli}, f)
	now, f := list.Add(l, e)
	isWhole(t, "Add"+what, now, f)
	now, gone, f := list.Slide(l, n)
	isWhole(t, "Slide"+what, slid{now, gone}, f)
	now, f = list.End(l)
	isWhole(t, "End"+what, now, f)
	d, f := list.Shorten(l, n)
	isWhole(t, "Shorten"+what, d, f)
	text, f = list.DeltaText(api.Delta{Skipped: n, List: l})
	isWhole(t, "DeltaText"+what, text, f)
	i, milli, f = list.StartAt(l, n)
	isWhole(t, "StartAt"+what, pair{i, milli}, f)
}

func anyLists(t *testing.T, what string, a, b api.List, m, n int) {
	list.Follows(a, b)
	l, f := list.Patch(a, api.Delta{Skipped: m, List: b})
	isWhole(t, "Patch"+what, l, f)
	number, f := list.Switch(a, b, n)
	isWhole(t, "Switch"+what, number, f)
}

func anyClient(t *testing.T, what string, l api.List, a, b int) {
	for _, c := range []api.Client{
		{Begun: true, Next: a, Lost: b, Last: all()},
		{Begun: true, Next: a, Last: l, Queue: []api.Item{{Number: b}}},
		{Next: a, Lost: b},
		{},
	} {
		now, f := list.Load(c, l, b)
		isWhole(t, "Load"+what, now, f)
		now, item, f := list.Play(c)
		isWhole(t, "Play"+what, played{now, item}, f)
	}
}

func anyMaster(t *testing.T, what string, a, b int) {
	for _, s := range []api.Stream{{Name: "a", Uri: "u", Mean: a, Peak: b, Width: b, Height: a}, {Name: "a", Uri: "u", Mean: 1, Peak: 2, Width: a, Height: a}} {
		m := api.Master{Streams: []api.Stream{s}}
		text, f := list.MasterText(m)
		isWhole(t, "MasterText"+what, text, f)
		i, f := list.Best(m, a, b, b)
		isWhole(t, "Best"+what, i, f)
	}
	for _, text := range []string{
		fmt.Sprintf("#LIST\n#TARGET %d\n#FIRST %d\n#BREAKS 0\n#TIME %d.001\nu\n", a, b, b),
		fmt.Sprintf("#LIST\n#TARGET %d\n#FIRST 0\n#BREAKS %d\n#SKIP %d\n", b, a, b),
		fmt.Sprintf("#MASTER\n#STREAM a %d %d %d %d -\nu\n", a, b, a, b),
	} {
		anyText(t, text)
	}
}

func anyText(t *testing.T, text string) {
	l, line, f := list.Read(text)
	isWhole(t, "Read "+text, l, f)
	isLine(t, "Read "+text, line, f)
	d, line, f := list.ReadDelta(text)
	isWhole(t, "ReadDelta "+text, d, f)
	isLine(t, "ReadDelta "+text, line, f)
	m, line, f := list.ReadMaster(text)
	isWhole(t, "ReadMaster "+text, m, f)
	isLine(t, "ReadMaster "+text, line, f)
}

// isLine expects the number of a line just where a line is wrong.
func isLine(t *testing.T, what string, line int, f api.Fault) {
	t.Helper()
	if (line > 0) != (f == api.ErrSyntax) {
		t.Errorf("%s: line %d with fault %d", what, line, f)
	}
}

// Each byte, at each place of a text.
func TestAnyBytes(t *testing.T) {
	for _, text := range []string{allText + "#END\n", deltaText, masterText} {
		for i := range len(text) {
			for b := range 256 {
				anyText(t, text[:i]+string([]byte{byte(b)})+text[i+1:])
			}
			anyText(t, text[:i])
		}
	}
}

// G2: arguments are not changed, and results are new memory.
func TestMemory(t *testing.T) {
	l := roomy(edited(all(), 3, func(e *api.Entry) { e.Extra = []string{"#X4"} }))
	more := roomy(changed(l, func(l *api.List) {
		l.Entries = append(l.Entries, api.Entry{Uri: "e", Milli: 5, Date: -1, Extra: []string{"#X"}})
	}))
	e := api.Entry{Uri: "e", Milli: 5, Extra: append(make([]string, 0, 3), "#X", "#X2")}
	one := func(result any, f api.Fault) (api.Fault, []any) { return f, []any{result} }
	guarded(t, "Check", func() (api.Fault, []any) { return list.Check(l), nil }, l)
	guarded(t, "Text", func() (api.Fault, []any) { return one(list.Text(l)) }, l)
	guarded(t, "Length", func() (api.Fault, []any) { return one(list.Length(l)) }, l)
	guarded(t, "Dates", func() (api.Fault, []any) { return one(list.Dates(l)) }, l)
	guarded(t, "At", func() (api.Fault, []any) { i, n, f := list.At(l, 5); return f, []any{i, n} }, l)
	guarded(t, "Add", func() (api.Fault, []any) { return one(list.Add(l, e)) }, l, e)
	guarded(t, "Slide", func() (api.Fault, []any) { x, n, f := list.Slide(l, 6500); return f, []any{x, n} }, l)
	guarded(t, "Slide of nothing", func() (api.Fault, []any) { x, n, f := list.Slide(l, api.MaxTime); return f, []any{x, n} }, l)
	guarded(t, "End", func() (api.Fault, []any) { return one(list.End(l)) }, l)
	guarded(t, "Follows", func() (api.Fault, []any) { return list.Follows(l, more), nil }, l, more)
	guarded(t, "Shorten", func() (api.Fault, []any) { return one(list.Shorten(l, 7)) }, l)
	d, f := list.Shorten(more, 7)
	isFault(t, "Shorten", f, api.OK)
	d.List = roomy(d.List)
	guarded(t, "DeltaText", func() (api.Fault, []any) { return one(list.DeltaText(d)) }, d)
	guarded(t, "Patch", func() (api.Fault, []any) { return one(list.Patch(l, d)) }, l, d)
	guarded(t, "StartAt", func() (api.Fault, []any) { i, n, f := list.StartAt(l, 5); return f, []any{i, n} }, l)
	queue := append(make([]api.Item, 0, 9), api.Item{Number: 3, Entry: e}, api.Item{Number: 4, Entry: l.Entries[0]})
	queue[1].Entry.Extra = append(make([]string, 0, 3), "#X")
	c := api.Client{Begun: true, Next: 6, Last: l, Queue: queue}
	guarded(t, "Load", func() (api.Fault, []any) { return one(list.Load(c, more, 0)) }, c, more)
	guarded(t, "Load at first", func() (api.Fault, []any) { return one(list.Load(api.Client{}, l, 9000)) }, l)
	guarded(t, "Load of nothing", func() (api.Fault, []any) {
		c.Next = 20
		return one(list.Load(c, more, 0))
	}, c.Queue, c.Last, more)
	guarded(t, "Play", func() (api.Fault, []any) { c, item, f := list.Play(c); return f, []any{c, item} }, c)
	guarded(t, "Switch", func() (api.Fault, []any) { return one(list.Switch(l, more, 6)) }, l, more)
	m := master()
	m.Streams, m.Sounds = append(make([]api.Stream, 0, 9), m.Streams...), append(make([]api.Sound, 0, 9), m.Sounds...)
	guarded(t, "CheckMaster", func() (api.Fault, []any) { return list.CheckMaster(m), nil }, m)
	guarded(t, "MasterText", func() (api.Fault, []any) { return one(list.MasterText(m)) }, m)
	guarded(t, "Best", func() (api.Fault, []any) { return one(list.Best(m, 1, 2, 3)) }, m)
	guarded(t, "Read", func() (api.Fault, []any) { x, n, f := list.Read(allText); return f, []any{x, n} })
	guarded(t, "ReadDelta", func() (api.Fault, []any) { x, n, f := list.ReadDelta(deltaText); return f, []any{x, n} })
	guarded(t, "ReadMaster", func() (api.Fault, []any) { x, n, f := list.ReadMaster(masterText); return f, []any{x, n} })
}

// G4: an empty list is as good as nil, and one call is as good as another.
func TestEmptyLists(t *testing.T) {
	empty := changed(none(), func(l *api.List) { l.Entries = []api.Entry{} })
	text, f := list.Text(empty)
	is(t, "Text", text, f, noneText)
	dates, f := list.Dates(empty)
	is(t, "Dates", dates, f, nil)
	l, n, f := list.Slide(empty, 0)
	is(t, "Slide", slid{l, n}, f, slid{none(), 0})
	isFault(t, "Follows", list.Follows(ended(empty), ended(none())), api.OK)
	isFault(t, "Follows", list.Follows(ended(none()), ended(empty)), api.OK)
	d, f := list.Shorten(empty, 9)
	is(t, "Shorten", d, f, api.Delta{List: none()})
	l, f = list.Patch(none(), api.Delta{List: empty})
	is(t, "Patch", l, f, none())
	l, f = list.Patch(empty, api.Delta{List: none()})
	is(t, "Patch", l, f, none())
	c, f := list.Load(api.Client{Begun: true, Next: 7, Last: empty}, none(), 0)
	is(t, "Load", c, f, api.Client{Begun: true, Next: 7, Last: none()})
	text, f = list.MasterText(api.Master{Streams: []api.Stream{}, Sounds: []api.Sound{}})
	is(t, "MasterText", text, f, "#MASTER\n")
	for range 3 {
		text, f := list.Text(all())
		is(t, "Text", text, f, allText)
	}
}

// The most that there can be is treated in no time.
func TestManyEntries(t *testing.T) {
	l := many(api.MaxEntries)
	for i := range l.Entries {
		l.Entries[i].Extra = []string{"#X" + strings.Repeat("x", 90)}
		l.Entries[i].Break = i%3 == 0
	}
	n, f := list.Switch(l, l, 999)
	is(t, "Switch", n, f, 999)
	c, f := list.Load(api.Client{}, l, api.MaxTime)
	isFault(t, "Load", f, api.OK)
	for range api.MaxEntries {
		c, _, f = list.Play(c)
		isFault(t, "Play", f, api.OK)
	}
	text, f := list.Text(l)
	isFault(t, "Text", f, api.OK)
	got, line, f := list.Read(text)
	is(t, "Read", got, f, l)
	is(t, "Read", line, f, 0)
}
