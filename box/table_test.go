package box_test

import (
	"fmt"
	"math/rand"
	"slices"
	"testing"

	"headend/api"
	"headend/box"
)

// plain returns a table of five samples, in three chunks.
func plain() api.Table {
	return api.Table{
		Start:  -20,
		Steps:  runs(2, 10, 3, 20),
		Shifts: runs(1, 30, 1, -5, 3, 0),
		Sizes:  []int{4, 0, 6, 7, 8},
		Keys:   []int{1, 4},
		Chunks: chunkRuns(1, 2, 3, 1),
		Places: []int{100, 50, 200},
	}
}

var plainSamples = []api.Sample{
	{Time: -20, Step: 10, Shift: 30, Size: 4, Key: true}, {Time: -10, Step: 10, Shift: -5, Size: 0},
	{Time: 0, Step: 20, Size: 6}, {Time: 20, Step: 20, Size: 7, Key: true}, {Time: 40, Step: 20, Size: 8},
}

var plainSpots = spots(100, 4, 104, 0, 50, 6, 56, 7, 200, 8)

// even returns a table of n samples that are alike, one in each chunk.
func even(n int) api.Table {
	return api.Table{
		Steps: runs(n, 1), Shifts: runs(n, 0), Sizes: []int{0},
		Chunks: chunkRuns(1, 1), Places: make([]int, n),
	}
}

// with returns a table that was changed.
func with(t api.Table, change func(t *api.Table)) api.Table {
	change(&t)
	return t
}

// goodTables are tables at the bounds.
var goodTables = map[string]api.Table{
	"none":              {},
	"none from a time":  {Start: -api.MaxTime},
	"none without keys": {Keys: []int{}},
	"plain":             plain(),
	"all samples":       even(api.MaxSamples),
	"one":               even(1),
	"a run for each":    with(even(2), func(t *api.Table) { t.Steps = runs(1, 1, 1, 1) }),
	"a size for each":   with(even(3), func(t *api.Table) { t.Sizes = []int{0, 0, 0} }),
	"needless chunks":   with(even(2), func(t *api.Table) { t.Chunks = append(t.Chunks, api.ChunkRun{First: 2, Samples: 1}) }),
	"last chunk apart":  with(even(api.MaxSamples), func(t *api.Table) { t.Chunks = chunkRuns(1, 1, api.MaxSamples, 1) }),
	"all keys":          with(even(2), func(t *api.Table) { t.Keys = []int{1, 2} }),
	"greatest": {
		Start: api.MaxTime - api.MaxStep, Steps: runs(1, api.MaxStep, 1, 0), Sizes: []int{0, api.MaxSampleSize},
		Shifts: runs(1, -api.MaxStep, 1, api.MaxStep), Chunks: chunkRuns(1, 1), Places: []int{api.MaxFile, api.MaxFile - api.MaxSampleSize},
	},
	"greatest chunk": {
		Start: -api.MaxTime, Steps: runs(1001, 0), Shifts: runs(1001, 0), Sizes: []int{0},
		Chunks: chunkRuns(1, api.MaxChunk, 2, 1), Places: []int{0, api.MaxFile},
	},
}

func TestCheckTable(t *testing.T) {
	for what, x := range goodTables {
		if f := box.CheckTable(x); f != api.OK {
			t.Error("CheckTable", what, f)
		}
	}
}

// tableFaults are changes of the plain table, and their faults, in the order in which the chapter checks them.
var tableFaults = []struct {
	what   string
	change func(t *api.Table)
	want   api.Fault
}{
	{"start too small", func(t *api.Table) { t.Start = -api.MaxTime - 1 }, api.ErrRange},
	{"start too great", func(t *api.Table) { t.Start = api.MaxTime + 1 }, api.ErrRange},
	{"steps count 0", func(t *api.Table) { t.Steps = append(runs(0, 1), t.Steps...) }, api.ErrRange},
	{"steps count -1", func(t *api.Table) { t.Steps = runs(6, 1, -1, 1) }, api.ErrRange},
	{"steps count too great", func(t *api.Table) { t.Steps = runs(api.MaxSamples+1, 0) }, api.ErrRange},
	{"step -1", func(t *api.Table) { t.Steps = runs(5, -1) }, api.ErrRange},
	{"step too great", func(t *api.Table) { t.Steps = runs(4, 0, 1, api.MaxStep+1) }, api.ErrRange},
	{"too many samples", func(t *api.Table) { t.Steps = runs(api.MaxSamples, 0, 1, 0) }, api.ErrLarge},
	{"shifts count 0", func(t *api.Table) { t.Shifts = append(runs(0, 1), t.Shifts...) }, api.ErrRange},
	{"shifts count too great", func(t *api.Table) { t.Shifts = runs(api.MaxSamples+1, 0) }, api.ErrRange},
	{"shift too small", func(t *api.Table) { t.Shifts = runs(5, -api.MaxStep-1) }, api.ErrRange},
	{"shift too great", func(t *api.Table) { t.Shifts = runs(5, api.MaxStep+1) }, api.ErrRange},
	{"too few shifts", func(t *api.Table) { t.Shifts = runs(4, 0) }, api.ErrForm},
	{"too many shifts", func(t *api.Table) { t.Shifts = runs(5, 0, 1, 0) }, api.ErrForm},
	{"no shifts", func(t *api.Table) { t.Shifts = nil }, api.ErrForm},
	{"no sizes", func(t *api.Table) { t.Sizes = nil }, api.ErrForm},
	{"two sizes", func(t *api.Table) { t.Sizes = []int{1, 1} }, api.ErrForm},
	{"too many sizes", func(t *api.Table) { t.Sizes = []int{1, 1, 1, 1, 1, -1} }, api.ErrForm},
	{"size -1", func(t *api.Table) { t.Sizes = []int{-1} }, api.ErrRange},
	{"size too great", func(t *api.Table) { t.Sizes = []int{0, 0, 0, 0, api.MaxSampleSize + 1} }, api.ErrRange},
	{"key 0", func(t *api.Table) { t.Keys = []int{0} }, api.ErrRange},
	{"key too great", func(t *api.Table) { t.Keys = []int{5, 6} }, api.ErrRange},
	{"key again", func(t *api.Table) { t.Keys = []int{2, 2, 9} }, api.ErrOrder},
	{"key before", func(t *api.Table) { t.Keys = []int{2, 1} }, api.ErrOrder},
	{"key 0 behind another", func(t *api.Table) { t.Keys = []int{2, 0} }, api.ErrRange},
	{"chunks first 0", func(t *api.Table) { t.Chunks = chunkRuns(0, 1) }, api.ErrRange},
	{"chunks first too great", func(t *api.Table) { t.Chunks = chunkRuns(1, 1, api.MaxSamples+1, 1) }, api.ErrRange},
	{"chunk without samples", func(t *api.Table) { t.Chunks = chunkRuns(1, 0) }, api.ErrRange},
	{"chunk too great", func(t *api.Table) { t.Chunks = chunkRuns(1, api.MaxChunk+1) }, api.ErrRange},
	{"chunks from 2 on, and too great", func(t *api.Table) { t.Chunks = chunkRuns(2, api.MaxChunk+1) }, api.ErrRange},
	{"chunks from 2 on", func(t *api.Table) { t.Chunks = chunkRuns(2, 1, 0, 1) }, api.ErrOrder},
	{"chunks first again", func(t *api.Table) { t.Chunks = chunkRuns(1, 2, 1, 2) }, api.ErrOrder},
	{"chunks first before", func(t *api.Table) { t.Chunks = chunkRuns(1, 2, 3, 1, 2, 1) }, api.ErrOrder},
	{"too few in chunks", func(t *api.Table) { t.Chunks = chunkRuns(1, 1) }, api.ErrForm},
	{"too many in chunks", func(t *api.Table) { t.Chunks = chunkRuns(1, 2) }, api.ErrForm},
	{"too few places", func(t *api.Table) { t.Places = []int{0, 0} }, api.ErrForm},
	{"too many places", func(t *api.Table) { t.Places = []int{0, 0, 0, 0} }, api.ErrForm},
	{"no places", func(t *api.Table) { t.Places = nil }, api.ErrForm},
	{"no chunks", func(t *api.Table) { t.Chunks = nil }, api.ErrForm},
	{"neither chunks nor places", func(t *api.Table) { t.Chunks, t.Places = nil, nil }, api.ErrForm},
	{"chunks behind the places", func(t *api.Table) { t.Chunks = chunkRuns(1, 2, 3, 1, 4, 1) }, api.ErrForm},
	{"chunks behind, that fit", func(t *api.Table) { t.Chunks = chunkRuns(1, 1, 4, 1, 5, 1, 7, 1) }, api.ErrForm},
	{"place -1", func(t *api.Table) { t.Places = []int{0, 0, -1} }, api.ErrRange},
	{"place too great", func(t *api.Table) { t.Places = []int{api.MaxFile + 1, 0, 0} }, api.ErrRange},
	{"end too great", func(t *api.Table) { t.Start = api.MaxTime - 79 }, api.ErrRange},
}

func TestTableFaults(t *testing.T) {
	for _, c := range tableFaults {
		badTable(t, c.what, with(plain(), c.change), c.want)
	}
	for i, first := range tableFaults { // the first of two faults
		for _, second := range tableFaults[i+1:] {
			x := with(with(plain(), second.change), first.change)
			badTable(t, first.what+", then "+second.what, x, first.want)
		}
	}
	for what, x := range map[string]api.Table{ // of no samples
		"size":            {Sizes: []int{1}},
		"shift":           {Shifts: runs(1, 0)},
		"place":           {Places: []int{1}},
		"chunk":           {Chunks: chunkRuns(1, 1)},
		"chunk and place": {Chunks: chunkRuns(1, 1), Places: []int{1}},
	} {
		badTable(t, "none, with a "+what, x, api.ErrForm)
	}
	badTable(t, "none, with a key", api.Table{Keys: []int{1}}, api.ErrRange)
	badTable(t, "from behind the times", api.Table{Start: api.MaxTime + 1}, api.ErrRange)
}

// badTable expects the fault of a table of all that takes tables.
func badTable(t *testing.T, what string, x api.Table, want api.Fault) {
	t.Helper()
	if f := box.CheckTable(x); f != want {
		t.Error("CheckTable", what, f, want)
	}
	l, where, f := box.Expand(x)
	isNot(t, "Expand "+what, l, f, want)
	isNot(t, "Expand "+what, where, f, want)
	b, f := box.TableBytes(x)
	isNot(t, "TableBytes "+what, b, f, want)
}

func TestExpand(t *testing.T) {
	l, where, f := box.Expand(plain())
	is(t, "Expand", l, f, plainSamples)
	is(t, "Expand", where, f, plainSpots)
	l, where, f = box.Expand(api.Table{Start: 7})
	is(t, "Expand of none", l, f, nil)
	is(t, "Expand of none", where, f, nil)
	for _, c := range []struct{ keys, want []int }{{nil, []int{1, 2, 3, 4, 5}}, {[]int{}, nil}, {[]int{5}, []int{5}}} {
		x := with(plain(), func(t *api.Table) { t.Keys = c.keys })
		l, _, f := box.Expand(x)
		var keys []int
		for i, s := range l {
			if s.Key {
				keys = append(keys, i+1)
			}
		}
		is(t, fmt.Sprint("Expand, keys ", c.keys, c.keys == nil), keys, f, c.want)
	}
	x := with(plain(), func(t *api.Table) { t.Sizes = []int{3} })
	_, where, f = box.Expand(x)
	is(t, "Expand with one size", where, f, spots(100, 3, 103, 3, 50, 3, 53, 3, 200, 3))
}

func TestExpandAtTheEnd(t *testing.T) {
	for beyond, want := range []api.Fault{api.OK, api.ErrRange} {
		for i, place := range []int{api.MaxFile - 4, api.MaxFile - 13, api.MaxFile - 8} {
			x := with(plain(), func(t *api.Table) { t.Places[i] = place + beyond })
			l, where, f := box.Expand(x)
			if f != want || want == api.ErrRange && (l != nil || where != nil) {
				t.Error("Expand", i, place+beyond, f, want)
			}
		}
	}
	_, _, f := box.Expand(goodTables["greatest"])
	if f != api.OK {
		t.Error("Expand", f)
	}
	x := with(even(2), func(t *api.Table) { t.Places = []int{api.MaxFile, api.MaxFile} })
	_, where, f := box.Expand(x) // without bytes there is nothing beyond the end
	is(t, "Expand", where, f, spots(api.MaxFile, 0, api.MaxFile, 0))
}

func TestCompact(t *testing.T) {
	key := func(l []api.Sample, keys ...bool) []api.Sample {
		out := slices.Clone(l)
		for i := range out {
			out[i].Key = keys[i%len(keys)]
		}
		return out
	}
	steps := samplesOf(10, 10, 20)
	one := runs(3, 0)
	for what, c := range map[string]struct {
		l              []api.Sample
		chunks, places []int
		want           api.Table
	}{
		"none":  {nil, nil, nil, api.Table{}},
		"plain": {plainSamples, []int{2, 2, 1}, []int{100, 50, 200}, plain()},
		"steps": {steps, []int{2, 1}, []int{100, 200}, api.Table{
			Steps: runs(2, 10, 1, 20), Shifts: one, Sizes: []int{2}, Keys: []int{1}, Chunks: chunkRuns(1, 2, 2, 1), Places: []int{100, 200}}},
		"all keys": {key(steps, true), []int{3}, []int{0}, api.Table{
			Steps: runs(2, 10, 1, 20), Shifts: one, Sizes: []int{2}, Chunks: chunkRuns(1, 3), Places: []int{0}}},
		"no keys": {key(steps, false), []int{1, 1, 1}, []int{3, 2, 1}, api.Table{
			Steps: runs(2, 10, 1, 20), Shifts: one, Sizes: []int{2}, Keys: []int{}, Chunks: chunkRuns(1, 1), Places: []int{3, 2, 1}}},
		"runs that come again": {samplesOf(10, 20, 10), []int{1, 1, 1}, []int{7, 7, 7}, api.Table{
			Steps: runs(1, 10, 1, 20, 1, 10), Shifts: one, Sizes: []int{2}, Keys: []int{1}, Chunks: chunkRuns(1, 1), Places: []int{7, 7, 7}}},
		"one": {[]api.Sample{{Time: 5, Size: 3, Shift: -1}}, []int{1}, []int{api.MaxFile}, api.Table{
			Start: 5, Steps: runs(1, 0), Shifts: runs(1, -1), Sizes: []int{3}, Keys: []int{}, Chunks: chunkRuns(1, 1), Places: []int{api.MaxFile}}},
	} {
		x, f := box.Compact(c.l, c.chunks, c.places)
		is(t, "Compact "+what, x, f, c.want)
		if (x.Keys == nil) != (c.want.Keys == nil) {
			t.Error("Compact", what, "keys", x.Keys == nil)
		}
	}
	x, f := box.Compact(manySamples(2001), []int{1000, 1000, 1}, []int{0, 0, 0})
	is(t, "Compact with great chunks", x.Chunks, f, chunkRuns(1, 1000, 3, 1))
}

func TestCompactFaults(t *testing.T) {
	l := manySamples(3)
	for _, c := range []struct {
		chunks, places []int
		want           api.Fault
	}{
		{[]int{3}, nil, api.ErrForm},
		{[]int{3}, []int{0, 0}, api.ErrForm},
		{nil, []int{0}, api.ErrForm},
		{nil, nil, api.ErrForm},
		{[]int{3, 0}, []int{0, 0}, api.ErrRange},
		{[]int{4, -1}, []int{0, 0}, api.ErrRange},
		{[]int{api.MaxChunk + 1}, []int{0}, api.ErrRange},
		{[]int{api.MaxChunk}, []int{0}, api.ErrForm},
		{[]int{2}, []int{0}, api.ErrForm},
		{[]int{2, 2}, []int{0, 0}, api.ErrForm},
		{[]int{3}, []int{-1}, api.ErrRange},
		{[]int{2, 1}, []int{0, api.MaxFile + 1}, api.ErrRange},
		// the first of several faults
		{[]int{0}, []int{-1, 0}, api.ErrForm},
		{[]int{0, 2}, []int{-1, 0}, api.ErrRange},
		{[]int{1, 1}, []int{-1, 0}, api.ErrForm},
	} {
		x, f := box.Compact(l, c.chunks, c.places)
		isNot(t, fmt.Sprint("Compact ", c.chunks, c.places), x, f, c.want)
	}
}

// split returns how many samples chunks of n samples have, and places of them.
func split(r *rand.Rand, n int) (chunks, places []int) {
	most := 1 + r.Intn(4)
	for n > 0 {
		chunk := min(1+r.Intn(most), n)
		chunks = append(chunks, chunk)
		places = append(places, r.Intn(1000))
		n -= chunk
	}
	return chunks, places
}

func TestExpandOfCompact(t *testing.T) {
	r := rand.New(rand.NewSource(1))
	for range 2000 {
		l := anySamples(r, r.Intn(12))
		chunks, places := split(r, len(l))
		x, f := box.Compact(l, chunks, places)
		if f != api.OK {
			t.Fatal("Compact", l, chunks, places, f)
		}
		again, where, f := box.Expand(x)
		is(t, "Expand of Compact", again, f, l)
		i := 0
		for n, place := range places {
			for range chunks[n] {
				if where[i] != (api.Spot{Place: place, Size: l[i].Size}) {
					t.Error("Expand of Compact", where, places, chunks)
				}
				place += l[i].Size
				i++
			}
		}
		fewest, f := box.Compact(again, chunks, places)
		is(t, "Compact of Expand", fewest, f, x)
		long := stretched(r, x)
		again, _, f = box.Expand(long)
		is(t, "Expand of a table with more runs", again, f, l)
		fewest, f = box.Compact(again, chunks, places)
		is(t, "Compact of Expand", fewest, f, x)
	}
}

// stretched returns a table with the same samples and more runs.
func stretched(r *rand.Rand, x api.Table) api.Table {
	broken := func(l []api.Run) []api.Run {
		var out []api.Run
		for _, run := range l {
			first := r.Intn(run.Count)
			if first > 0 {
				out = append(out, api.Run{Count: first, Value: run.Value})
			}
			out = append(out, api.Run{Count: run.Count - first, Value: run.Value})
		}
		return out
	}
	n := 0
	for _, run := range x.Steps {
		n += run.Count
	}
	if len(x.Sizes) == 1 {
		x.Sizes = slices.Repeat(x.Sizes, n)
	}
	if x.Keys == nil {
		x.Keys = []int{}
		for i := range n {
			x.Keys = append(x.Keys, i+1)
		}
	}
	x.Steps, x.Shifts = broken(x.Steps), broken(x.Shifts)
	return x
}

// bytesOfPlain are the bytes of the plain table.
func bytesOfPlain() []byte {
	return joined(int64(-20),
		int32(2), int64(2), int64(10), int64(3), int64(20),
		int32(3), int64(1), int64(30), int64(1), int64(-5), int64(3), int64(0),
		int32(5), int64(4), int64(0), int64(6), int64(7), int64(8),
		1, int32(2), int64(1), int64(4),
		int32(2), int64(1), int64(2), int64(3), int64(1),
		int32(3), int64(100), int64(50), int64(200))
}

func TestTableBytes(t *testing.T) {
	b, f := box.TableBytes(plain())
	is(t, "TableBytes", b, f, bytesOfPlain())
	b, f = box.TableBytes(api.Table{Start: api.MaxTime})
	is(t, "TableBytes of none", b, f, joined(int64(api.MaxTime), make([]byte, 12), 0, make([]byte, 8)))
	b, f = box.TableBytes(api.Table{Start: -api.MaxTime, Keys: []int{}})
	is(t, "TableBytes of none, no keys", b, f, joined(int64(-api.MaxTime), make([]byte, 12), 1, make([]byte, 12)))
	for what, x := range goodTables {
		b, f := box.TableBytes(x)
		if f != api.OK {
			t.Error("TableBytes", what, f)
		}
		again, place, f := box.ReadTable(b)
		is(t, "ReadTable "+what, again, f, x)
		if place != 0 || (again.Keys == nil) != (x.Keys == nil) {
			t.Error("ReadTable", what, place, again.Keys == nil)
		}
		if what == "none" && (again.Steps != nil || again.Shifts != nil || again.Sizes != nil || again.Chunks != nil || again.Places != nil) {
			t.Error("ReadTable", what, "a list without elements is not nil")
		}
	}
}

// fieldsOfPlain are the places of the numbers of the plain table, where a count stands for all of its elements.
func fieldsOfPlain() []int {
	var places []int
	at := 0
	for _, size := range []int{8, 4 + 2*16, 4 + 3*16, 4 + 5*8, 1, 4 + 2*8, 4 + 2*16, 4 + 3*8} {
		places = append(places, at)
		at += size
	}
	return places
}

func TestReadTableFaults(t *testing.T) {
	b, fields := bytesOfPlain(), fieldsOfPlain()
	tooShort(t, "ReadTable", b, fields, box.ReadTable)
	for many := 1; many < 20; many++ {
		x, at, f := box.ReadTable(append(slices.Clone(b), make([]byte, many)...))
		isAt(t, fmt.Sprint("ReadTable, too many ", many), x, at, f, len(b), api.ErrSyntax)
	}
	for _, mark := range []byte{2, 255} {
		x, at, f := box.ReadTable(changed(b, fields[4], mark))
		isAt(t, "ReadTable, another byte before Keys", x, at, f, fields[4], api.ErrSyntax)
	}
	for _, at := range []int{fields[1], fields[2], fields[3], fields[5], fields[6], fields[7]} {
		x, place, f := box.ReadTable(changed(b, at, 255))
		isAt(t, "ReadTable, a great count", x, place, f, at, api.ErrSyntax)
	}
	x, at, f := box.ReadTable(changed(b, fields[4], 0)) // then what were the Keys are Chunks, and so on
	if f != api.ErrSyntax || at == 0 || len(x.Steps) > 0 {
		t.Error("ReadTable", x, at, f)
	}
	x, at, f = box.ReadTable(joined(int64(0), int32(0), int32(1), make([]byte, 15)))
	isAt(t, "ReadTable, one byte too few for a count", x, at, f, 12, api.ErrSyntax)
	x, at, f = box.ReadTable(nil)
	isAt(t, "ReadTable of nothing", x, at, f, 0, api.ErrSyntax)
	x, at, f = box.ReadTable(make([]byte, api.MaxFile+1))
	isAt(t, "ReadTable of many bytes", x, at, f, 0, api.ErrLarge)
	x, at, f = box.ReadTable(make([]byte, api.MaxFile))
	isAt(t, "ReadTable of many bytes", x, at, f, 8+12+1+8, api.ErrSyntax)
}

// changed returns bytes of which one is another one.
func changed(b []byte, at int, other byte) []byte {
	b = slices.Clone(b)
	b[at] = other
	return b
}

// What can be read, but is no table, has the fault of the table, without a place.
func TestReadTableChecks(t *testing.T) {
	for what, c := range map[string]struct {
		b    []byte
		want api.Fault
	}{
		"start":            {joined(int64(api.MaxTime+1), make([]byte, 21)), api.ErrRange},
		"start below 0":    {joined(int64(-api.MaxTime-1), make([]byte, 21)), api.ErrRange},
		"shifts":           {changed(bytesOfPlain(), 55, 2), api.ErrForm},
		"count below 0":    {changed(bytesOfPlain(), 12, 255), api.ErrRange},
		"step below 0":     {changed(bytesOfPlain(), 20, 128), api.ErrRange},
		"first key":        {changed(bytesOfPlain(), 152, 5), api.ErrOrder},
		"too many samples": {joined(int64(0), int32(2), int64(api.MaxSamples), int64(0), int64(1), int64(0), make([]byte, 17)), api.ErrLarge},
	} {
		x, at, f := box.ReadTable(c.b)
		isAt(t, "ReadTable "+what, x, at, f, 0, c.want)
	}
}

func TestTablesAreNewMemory(t *testing.T) {
	x := plain()
	x.Steps, x.Shifts, x.Sizes, x.Keys = roomy(x.Steps), roomy(x.Shifts), roomy(x.Sizes), roomy(x.Keys)
	x.Chunks, x.Places = roomy(x.Chunks), roomy(x.Places)
	untouched(t, "Expand, TableBytes", x, func() {
		l, where, _ := box.Expand(x)
		apart(t, "Expand", l, x, where)
		apart(t, "Expand", where, x)
		b, _ := box.TableBytes(x)
		apart(t, "TableBytes", b, x)
	})
	l, chunks, places := roomy(plainSamples), roomy([]int{2, 2, 1}), roomy([]int{100, 50, 200})
	untouched(t, "Compact", [][]int{chunks, places}, func() {
		untouched(t, "Compact", l, func() {
			x, _ := box.Compact(l, chunks, places)
			apart(t, "Compact", x, l, chunks, places)
		})
	})
	b := roomy(bytesOfPlain())
	untouched(t, "ReadTable", b, func() {
		x, _, _ := box.ReadTable(b)
		apart(t, "ReadTable", x, b)
	})
}
