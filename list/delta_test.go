package list_test

import (
	"fmt"
	"math"
	"math/rand"
	"slices"
	"strings"
	"testing"

	"headend/api"
	"headend/list"
)

func TestShorten(t *testing.T) {
	l := changed(listOf(5, 1, 2, 3, 4), func(l *api.List) { l.Breaks = 7; l.Entries[1].Break = true })
	for have, skipped := range map[int]int{
		math.MinInt: 0, math.MinInt + 1: 0, -1: 0, 0: 0, 4: 0, 5: 0, 6: 0, 7: 1, 8: 2, 9: 3, 10: 3, 11: 3, 1000: 3, api.MaxTime + 1: 3, math.MaxInt: 3,
	} {
		for _, l := range []api.List{l, ended(l)} {
			d, f := list.Shorten(l, have)
			is(t, fmt.Sprint("Shorten ", have), d, f, api.Delta{Skipped: skipped, List: changed(l, func(l *api.List) { l.Entries = l.Entries[skipped:] })})
		}
		d, f := list.Shorten(none(), have)
		is(t, fmt.Sprint("Shorten of none ", have), d, f, api.Delta{List: none()})
		one := changed(l, func(l *api.List) { l.Entries = l.Entries[:1] })
		d, f = list.Shorten(one, have)
		is(t, fmt.Sprint("Shorten of one ", have), d, f, api.Delta{List: one})
		d, f = list.Shorten(bad(), have)
		isNot(t, "Shorten", d, f, api.ErrForm)
	}
	last := changed(listOf(maxFirst, 1, 1), func(l *api.List) { l.Breaks = api.MaxTime })
	d, f := list.Shorten(last, maxFirst+2)
	is(t, "Shorten", d, f, api.Delta{Skipped: 1, List: changed(last, func(l *api.List) { l.Entries = l.Entries[1:] })})
}

const deltaText = "#LIST\n#TARGET 6\n#FIRST 5\n#BREAKS 3\n#SKIP 1\n#KEY k1\n#GAP\n#TIME 6.000\nb\n#X 3\n#KEY -\n#TIME 6.499\nc\n#BREAK\n#KEY k2\n#TIME 0.001\nd\n"

func TestDeltaText(t *testing.T) {
	behind := changed(all(), func(l *api.List) { l.Entries = l.Entries[1:] })
	for want, d := range map[string]api.Delta{
		deltaText: {Skipped: 1, List: behind},
		"#LIST\n#TARGET 6\n#FIRST 7\n#BREAKS 2\n#SKIP 0\n":                      {List: none()},
		"#LIST\n#TARGET 6\n#FIRST 7\n#BREAKS 2\n#SKIP 1000\n#END\n":             {Skipped: api.MaxEntries, List: ended(none())},
		strings.Replace(allText, "#X\n", "#SKIP 2\n#X\n", 1):                    {Skipped: 2, List: all()},
		strings.NewReplacer("#KEY k1\n", "", "#KEY -\n", "").Replace(deltaText): {Skipped: 1, List: edited(behind, 0, func(e *api.Entry) { e.Key = "" })},
	} {
		text, f := list.DeltaText(d)
		is(t, "DeltaText", text, f, want)
		got, line, f := list.ReadDelta(want)
		is(t, "ReadDelta", got, f, d)
		is(t, "ReadDelta", line, f, 0)
	}
	// The line of Skipped counts.
	text, f := list.DeltaText(api.Delta{List: long(-len("#SKIP 0\n"))})
	if f != api.OK || len(text) != api.MaxListText {
		t.Error("DeltaText", len(text), f)
	}
	d, line, f := list.ReadDelta(text)
	is(t, "ReadDelta", d, f, api.Delta{List: long(-len("#SKIP 0\n"))})
	is(t, "ReadDelta", line, f, 0)
	call := func(d api.Delta) api.Fault {
		text, f := list.DeltaText(d)
		isWhole(t, "DeltaText", text, f)
		return f
	}
	inOrder(t, "DeltaText", func() api.Delta { return api.Delta{List: all()} }, call, []wrong[api.Delta]{
		{"a wrong head", api.ErrRange, func(d *api.Delta) { d.List.Target = 0 }},
		{"a wrong entry", api.ErrForm, func(d *api.Delta) { d.List.Entries = append(d.List.Entries, api.Entry{}) }},
		{"Skipped too great", api.ErrRange, func(d *api.Delta) { d.Skipped = api.MaxEntries + 1 }},
	})
	for what, d := range map[string]api.Delta{
		"too long":                        {List: long(1 - len("#SKIP 0\n"))},
		"too long by Skipped":             {Skipped: 10, List: long(-len("#SKIP 0\n"))},
		"too long without Skipped":        {List: long(1)},
		"too long, and Skipped too great": {Skipped: api.MaxEntries + 1, List: long(0)},
		"too long, and Skipped below 0":   {Skipped: -1, List: long(0)},
	} {
		text, f := list.DeltaText(d)
		isNot(t, "DeltaText "+what, text, f, api.ErrLarge)
	}
	for _, n := range numbers {
		if n < 0 || n > api.MaxEntries {
			text, f := list.DeltaText(api.Delta{Skipped: n, List: all()})
			isNot(t, fmt.Sprint("DeltaText ", n), text, f, api.ErrRange)
		}
	}
}

func TestReadDeltaFaults(t *testing.T) {
	const head, good = "#LIST\n#TARGET 6\n#FIRST 5\n#BREAKS 1\n", "#TIME 6.000\na\n"
	for text, want := range map[string]pair{
		strings.Repeat("\n", api.MaxListText+1):                                {0, int(api.ErrLarge)},
		head + "#SKIP 0\n#TIME 6.000\n" + strings.Repeat("u", api.MaxListText): {0, int(api.ErrLarge)},
		"":                                 {1, int(api.ErrSyntax)},
		"#LIST\n#TARGET 6":                 {2, int(api.ErrSyntax)},
		head:                               {5, int(api.ErrSyntax)},
		head + good:                        {5, int(api.ErrSyntax)},
		head + "#END\n":                    {5, int(api.ErrSyntax)},
		head + "#SKIP 0":                   {5, int(api.ErrSyntax)},
		head + "#SKIP\n":                   {5, int(api.ErrSyntax)},
		head + "#SKIP \n":                  {5, int(api.ErrSyntax)},
		head + "#SKIP 00\n":                {5, int(api.ErrSyntax)},
		head + "#SKIP 01\n":                {5, int(api.ErrSyntax)},
		head + "#SKIP -1\n":                {5, int(api.ErrSyntax)},
		head + "#SKIP 1 \n":                {5, int(api.ErrSyntax)},
		head + "#SKIPPED 1\n":              {5, int(api.ErrSyntax)},
		head + "#SKIP 12345678901234567\n": {5, int(api.ErrSyntax)},
		head + "#SKIP 1\n#SKIP 1\n":        {6, int(api.ErrSyntax)},
		head + "#SKIP 1\n#END\n#END\n":     {7, int(api.ErrSyntax)},
		head + "#SKIP 1\n#KEY -\n" + good:  {6, int(api.ErrSyntax)},
		head + "#SKIP 1\n" + good + "#TIME 6.000\n":               {9, int(api.ErrSyntax)},
		"#LIST\n#TARGET 6\n#FIRST 5\n#SKIP 1\n#BREAKS 1\n" + good: {4, int(api.ErrSyntax)},
		head + "#SKIP 1001\n" + good + "x\n":                      {8, int(api.ErrSyntax)},
		head + "#SKIP 1001\n#TIME 0.000\na\n":                     {0, int(api.ErrRange)},
		head + "#SKIP 1001\n#TIME 6.000\na b\n":                   {0, int(api.ErrForm)},
		head + "#SKIP 1001\n" + good:                              {0, int(api.ErrRange)},
		head + "#SKIP 9999999999999999\n" + good:                  {0, int(api.ErrRange)},
		"#LIST\n#TARGET 0\n#FIRST 5\n#BREAKS 1\n#SKIP 1\n" + good: {0, int(api.ErrRange)},
		head + "#SKIP 1\n" + strings.Repeat(good, 1001):           {0, int(api.ErrLarge)},
		head + "#SKIP 1001\n" + "#KEY K\n" + good:                 {0, int(api.ErrName)},
	} {
		d, line, f := list.ReadDelta(text)
		isNot(t, fmt.Sprintf("ReadDelta %.80q", text), d, f, api.Fault(want.b))
		if line != want.a {
			t.Errorf("ReadDelta %.80q: line %d, want %d", text, line, want.a)
		}
	}
	_, line, f := list.Read(head + "#SKIP 0\n" + good)
	isNot(t, "Read", 0, f, api.ErrSyntax)
	is(t, "Read", line, api.OK, 5)
}

func TestPatch(t *testing.T) {
	old := changed(listOf(5, 1000, 2000, 3000), func(l *api.List) { l.Breaks = 1; l.Entries[1].Break = true })
	now := changed(old, func(l *api.List) { l.Entries = append(l.Entries, entry("d", 4000)) })
	part := func(l api.List, skipped int) api.Delta {
		return api.Delta{Skipped: skipped, List: changed(l, func(l *api.List) { l.Entries = l.Entries[skipped:] })}
	}
	slid := changed(now, func(l *api.List) { l.First, l.Breaks, l.Entries = 7, 2, l.Entries[2:] })
	far := changed(listOf(20, 1), func(l *api.List) { l.Breaks = 9 })
	for what, c := range map[string]struct {
		l    api.List
		d    api.Delta
		want api.List
	}{
		"nothing skipped":                {old, part(now, 0), now},
		"one skipped":                    {old, part(now, 1), now},
		"all skipped":                    {old, part(now, 3), now},
		"ended":                          {old, part(ended(now), 2), ended(now)},
		"the same":                       {old, part(old, 3), old},
		"the same, ended":                {ended(old), part(ended(old), 1), ended(old)},
		"slid":                           {old, part(slid, 1), slid},
		"slid, nothing skipped":          {old, part(slid, 0), slid},
		"far, nothing skipped":           {old, part(far, 0), far},
		"from nothing":                   {none(), api.Delta{List: none()}, none()},
		"with another Extra that is nil": {old, api.Delta{Skipped: 3, List: changed(old, func(l *api.List) { l.Entries = nil })}, old},
	} {
		l, f := list.Patch(c.l, c.d)
		is(t, "Patch "+what, l, f, c.want)
	}
}

func TestPatchFaults(t *testing.T) {
	type args struct {
		l api.List
		d api.Delta
	}
	good := func() args {
		l := listOf(5, slices.Repeat([]int{1000}, 990)...)
		return args{l, api.Delta{Skipped: 990, List: changed(l, func(l *api.List) {
			l.Entries = []api.Entry{entry("x", 1000)}
		})}}
	}
	call := func(a args) api.Fault {
		l, f := list.Patch(a.l, a.d)
		isWhole(t, "Patch", l, f)
		return f
	}
	extra := listOf(2000, slices.Repeat([]int{1000}, 11)...).Entries
	inOrder(t, "Patch", good, call, []wrong[args]{
		{"a wrong list", api.ErrName, func(a *args) { a.l.Entries[0].Key = "K" }},
		{"a wrong list of the delta", api.ErrForm, func(a *args) { a.d.List.Entries[0].Uri = "" }},
		{"Skipped -1", api.ErrRange, func(a *args) { a.d.Skipped = -1 }},
		{"Skipped 1001", api.ErrRange, func(a *args) { a.d.Skipped = api.MaxEntries + 1 }},
		{"Skipped far too great", api.ErrRange, func(a *args) { a.d.Skipped = math.MaxInt }},
		{"one Skipped more", api.ErrNone, func(a *args) { a.d.Skipped++ }},
		{"one before the list", api.ErrNone, func(a *args) { a.d.List.First-- }},
		{"too many", api.ErrLarge, func(a *args) { a.d.List.Entries = append(slices.Clone(a.d.List.Entries), extra...) }},
		{"another Target", api.ErrType, func(a *args) { a.d.List.Target-- }},
		{"no more Ended", api.ErrState, func(a *args) { a.l.Ended = true }},
		{"other Breaks", api.ErrForm, func(a *args) { a.d.List.Breaks++ }},
	})
	for what, c := range map[string]struct {
		args
		want api.Fault
	}{
		"one before the list, but none Skipped": {args{listOf(5, 1), api.Delta{List: listOf(4, 1, 1)}}, api.ErrOrder},
		"none Skipped behind the list":          {args{listOf(5, 1), api.Delta{List: listOf(9, 1)}}, api.OK},
		"Skipped behind the list":               {args{listOf(5, 1), api.Delta{Skipped: 1, List: listOf(9, 1)}}, api.ErrNone},
		"Skipped, but there are no entries":     {args{none(), api.Delta{Skipped: 1, List: none()}}, api.ErrNone},
		"some of those Skipped":                 {args{listOf(5, 1, 1), api.Delta{Skipped: 2, List: listOf(6, 1)}}, api.ErrNone},
		"a Target that is too little":           {args{listOf(5, 9000), api.Delta{Skipped: 1, List: changed(none(), func(l *api.List) { l.First = 5 })}}, api.ErrLarge},
		"another entry":                         {args{listOf(5, 1, 1), api.Delta{Skipped: 1, List: changed(listOf(5, 2), func(l *api.List) { l.Breaks = 0 })}}, api.ErrClash},
		"a lesser end":                          {args{listOf(5, 1, 1), api.Delta{Skipped: 1, List: listOf(5)}}, api.ErrOrder},
	} {
		isFault(t, "Patch "+what, call(c.args), c.want)
	}
}

// Patch of what a client has and the shortest delta for it is the list of now.
func TestManyPatches(t *testing.T) {
	r := rand.New(rand.NewSource(11))
	n := 0
	for range 5000 {
		old := draw(r, 5)
		now := grown(t, r, old, r.Intn(9))
		behind := old.First + len(old.Entries)
		if now.First > behind {
			continue
		}
		n++
		d, f := list.Shorten(now, behind)
		isFault(t, "Shorten", f, api.OK)
		text, f := list.DeltaText(d)
		isFault(t, "DeltaText", f, api.OK)
		read, line, f := list.ReadDelta(text)
		is(t, "ReadDelta", read, f, d)
		is(t, "ReadDelta", line, f, 0)
		l, f := list.Patch(old, read)
		is(t, fmt.Sprint("Patch ", old, read), l, f, now)
	}
	if n < 1000 {
		t.Error("too few", n)
	}
}

func TestManyDeltaTexts(t *testing.T) {
	r := rand.New(rand.NewSource(12))
	drawDelta := func() api.Delta { return api.Delta{Skipped: r.Intn(5), List: draw(r, 3)} }
	faults := manyTexts(t, r, drawDelta, list.DeltaText, list.ReadDelta, func(text string) int {
		return wrongLine(text, deltaShape, listEnds...)
	})
	for _, f := range []api.Fault{api.OK, api.ErrSyntax, api.ErrName, api.ErrForm, api.ErrRange, api.ErrLarge} {
		if faults[f] < 10 {
			t.Error("too few with fault", f, faults)
		}
	}
}
