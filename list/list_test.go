package list_test

import (
	"fmt"
	"strings"
	"testing"

	"headend/api"
	"headend/list"
)

func TestCheckGood(t *testing.T) {
	long := func(n int) string { return strings.Repeat("u", n) }
	full := edited(all(), 2, func(e *api.Entry) {
		for len(e.Extra) < api.MaxExtra {
			e.Extra = append(e.Extra, "#X"+strings.Repeat(" ", api.MaxLine-2))
		}
	})
	for what, l := range map[string]api.List{
		"all":                   all(),
		"none":                  none(),
		"the least":             {Target: 1},
		"the greatest":          {Target: api.MaxTarget, First: maxFirst, Breaks: api.MaxTime, Ended: true},
		"ended":                 changed(all(), func(l *api.List) { l.Ended = true }),
		"as many as there can":  many(api.MaxEntries),
		"a long Uri":            edited(all(), 1, func(e *api.Entry) { e.Uri = long(api.MaxUri) }),
		"the least byte of Uri": edited(all(), 1, func(e *api.Entry) { e.Uri = "!" }),
		"the greatest byte":     edited(all(), 1, func(e *api.Entry) { e.Uri = "~#" }),
		"1 millisecond":         edited(all(), 1, func(e *api.Entry) { e.Milli = 1 }),
		"just rounded down":     edited(all(), 1, func(e *api.Entry) { e.Milli = 6499 }),
		"the longest":           edited(many(1), 0, func(e *api.Entry) { e.Milli = api.MaxMillis }),
		"the first date":        edited(all(), 1, func(e *api.Entry) { e.Date = 0 }),
		"the last date":         edited(all(), 1, func(e *api.Entry) { e.Date = api.MaxMilli }),
		"a long Key":            edited(all(), 1, func(e *api.Entry) { e.Key = long(api.MaxName) }),
		"as many further lines": full,
		"an empty further line": edited(all(), 1, func(e *api.Entry) { e.Extra = []string{"#X", "#X", "#X~ "} }),
		"equal Uris":            edited(all(), 1, func(e *api.Entry) { e.Uri = "a" }),
	} {
		isFault(t, what, list.Check(l), api.OK)
	}
}

// entryWrongs are what can be wrong with an entry, in the order in which it is told.
func entryWrongs() []wrong[api.Entry] {
	extra := func(lines ...string) func(e *api.Entry) { return func(e *api.Entry) { e.Extra = lines } }
	var all []wrong[api.Entry]
	add := func(fault api.Fault, what string, change func(e *api.Entry)) {
		all = append(all, wrong[api.Entry]{what, fault, change})
	}
	for _, uri := range []string{"", strings.Repeat("u", api.MaxUri+1), "#", "#a", "a b", " ", "a\n", "\x00", "a\x7f", "ä"} {
		add(api.ErrForm, fmt.Sprintf("the Uri %.5q", uri), func(e *api.Entry) { e.Uri = uri })
	}
	for _, milli := range numbers {
		if milli < 1 || milli > api.MaxMillis {
			add(api.ErrRange, fmt.Sprint("Milli ", milli), func(e *api.Entry) { e.Milli = milli })
		}
	}
	for _, milli := range []int{6500, 6501, api.MaxMillis} {
		add(api.ErrLarge, fmt.Sprint("Milli ", milli), func(e *api.Entry) { e.Milli = milli })
	}
	for _, date := range numbers {
		if date < -1 || date > api.MaxMilli {
			add(api.ErrRange, fmt.Sprint("Date ", date), func(e *api.Entry) { e.Date = date })
		}
	}
	for _, key := range []string{"-", "K", "9", "a b", "k_", strings.Repeat("k", api.MaxName+1)} {
		add(api.ErrName, fmt.Sprintf("the Key %.5q", key), func(e *api.Entry) { e.Key = key })
	}
	add(api.ErrLarge, "too many further lines", extra(strings.Split(strings.Repeat("x", api.MaxExtra+1), "")...))
	for _, line := range []string{"", "#", "X", "#x", " #X", "#BREAK", "#X\n", "#X\x1f", "#X\x7f", "#Xä", "#Y" + strings.Repeat("x", api.MaxLine)} {
		add(api.ErrForm, fmt.Sprintf("the further line %.5q", line), extra("#X", line))
	}
	add(api.ErrLarge, "a long further line", extra("#X"+strings.Repeat("x", api.MaxLine-1)))
	return all
}

func TestCheckEntries(t *testing.T) {
	wrongs := entryWrongs()
	for i, first := range wrongs {
		for place := range all().Entries {
			what := fmt.Sprint(first.what, " at ", place)
			isFault(t, what, list.Check(edited(all(), place, first.change)), first.fault)
		}
		for _, later := range wrongs[i+1:] {
			what := first.what + " and " + later.what
			both := edited(edited(all(), 1, later.change), 1, first.change)
			isFault(t, what, list.Check(both), first.fault)
			entries := edited(edited(all(), 2, first.change), 1, later.change)
			isFault(t, what+" of the entry before it", list.Check(entries), later.fault)
		}
	}
	lines := edited(all(), 1, func(e *api.Entry) { e.Extra = []string{"#X" + strings.Repeat("x", api.MaxLine), "x"} })
	isFault(t, "a long line before one that is none", list.Check(lines), api.ErrLarge)
	lines.Entries[1].Extra[0] = "#X\x00" + lines.Entries[1].Extra[0]
	isFault(t, "a long line that is none", list.Check(lines), api.ErrForm)
}

func TestCheckTarget(t *testing.T) {
	for _, c := range []struct{ target, milli, want int }{{1, 1499, 0}, {1, 1500, 2}, {1, 1, 0}, {2, 2499, 0}, {2, 2500, 2}, {3600, 3600000, 0}, {3599, 3600000, 2}, {3599, 3599499, 0}, {3599, 3599500, 2}} {
		l := listOf(0, c.milli)
		l.Target = c.target
		isFault(t, fmt.Sprint(c), list.Check(l), api.Fault(c.want))
	}
}

func TestCheckHead(t *testing.T) {
	var wrongs []wrong[api.List]
	for _, n := range numbers {
		if n < 1 || n > api.MaxTarget {
			wrongs = append(wrongs, wrong[api.List]{fmt.Sprint("Target ", n), api.ErrRange, func(l *api.List) { l.Target = n }})
		}
		if n < 0 || n > maxFirst {
			wrongs = append(wrongs, wrong[api.List]{fmt.Sprint("First ", n), api.ErrRange, func(l *api.List) { l.First = n }})
		}
		if n < 0 || n > api.MaxTime {
			wrongs = append(wrongs, wrong[api.List]{fmt.Sprint("Breaks ", n), api.ErrRange, func(l *api.List) { l.Breaks = n }})
		}
	}
	tooMany := many(api.MaxEntries + 1)
	wrongs = append(wrongs,
		wrong[api.List]{"too many", api.ErrLarge, func(l *api.List) { l.Entries = tooMany.Entries }},
		wrong[api.List]{"a wrong entry", api.ErrForm, func(l *api.List) { // one of too many, if they are
			l.Entries = append([]api.Entry{{}}, l.Entries...)
		}},
	)
	inOrder(t, "Check", all, list.Check, wrongs)
	many := many(api.MaxEntries + 1)
	many.Entries[0].Uri = ""
	isFault(t, "too many, and a wrong one", list.Check(many), api.ErrLarge)
}
