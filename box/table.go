package box

import (
	"headend/api"
	"headend/check"
)

// CheckTable validates a table.
func CheckTable(t api.Table) api.Fault {
	n := counted(t.Steps)
	return check.First(
		check.If(!check.IsTime(t.Start), api.ErrRange),
		checkRuns(t.Steps, 0),
		check.If(n > api.MaxSamples, api.ErrLarge),
		checkRuns(t.Shifts, -api.MaxStep),
		check.If(counted(t.Shifts) != n, api.ErrForm),
		check.If(len(t.Sizes) != n && (n == 0 || len(t.Sizes) != 1), api.ErrForm),
		checkEach(t.Sizes, 0, api.MaxSampleSize),
		checkKeys(t.Keys, n),
		checkChunks(t.Chunks),
		check.If(!isFull(t.Chunks, len(t.Places), n), api.ErrForm),
		checkEach(t.Places, 0, api.MaxFile),
		check.If(!check.IsTime(t.Start+total(t.Steps)), api.ErrRange),
	)
}

// counted returns of how many numbers runs are.
func counted(l []api.Run) int {
	n := 0
	for _, r := range l {
		n += r.Count
	}
	return n
}

// total returns the sum of the numbers that runs are of.
func total(l []api.Run) int {
	sum := 0
	for _, r := range l {
		sum += r.Count * r.Value
	}
	return sum
}

// checkRuns validates runs of numbers that have a least value.
func checkRuns(l []api.Run, least int) api.Fault {
	for _, r := range l {
		if !check.Within(r.Count, 1, api.MaxSamples) || !check.Within(r.Value, least, api.MaxStep) {
			return api.ErrRange
		}
	}
	return api.OK
}

// checkKeys validates the numbers of those of n samples that are keys.
func checkKeys(l []int, n int) api.Fault {
	for i, key := range l {
		if !check.Within(key, 1, n) {
			return api.ErrRange
		}
		if i > 0 && key <= l[i-1] {
			return api.ErrOrder
		}
	}
	return api.OK
}

func checkChunks(l []api.ChunkRun) api.Fault {
	for i, c := range l {
		if !check.Within(c.First, 1, api.MaxSamples) || !check.Within(c.Samples, 1, api.MaxChunk) {
			return api.ErrRange
		}
		if i == 0 && c.First != 1 || i > 0 && c.First <= l[i-1].First {
			return api.ErrOrder
		}
	}
	return api.OK
}

// isFull says whether so many chunks are told by runs, each of which is of one of them, and have just n samples.
func isFull(l []api.ChunkRun, chunks, n int) bool {
	if len(l) == 0 {
		return chunks == 0 && n == 0
	}
	for i, c := range l {
		next := chunks + 1
		if i+1 < len(l) {
			next = l[i+1].First
		}
		n -= (next - c.First) * c.Samples
	}
	return n == 0 && l[len(l)-1].First <= chunks
}

// Expand returns the samples of a table, and where each one is.
func Expand(t api.Table) ([]api.Sample, []api.Spot, api.Fault) {
	if fault := CheckTable(t); fault != api.OK {
		return nil, nil, fault
	}
	l := make([]api.Sample, counted(t.Steps))
	time := t.Start
	eachOf(t.Steps, func(i, step int) {
		l[i].Time, l[i].Step = time, step
		time += step
	})
	eachOf(t.Shifts, func(i, shift int) { l[i].Shift = shift })
	for i := range l {
		l[i].Size = t.Sizes[min(i, len(t.Sizes)-1)]
		l[i].Key = t.Keys == nil
	}
	for _, key := range t.Keys {
		l[key-1].Key = true
	}
	spots, fault := spotsOf(t, l)
	if fault != api.OK {
		return nil, nil, fault
	}
	return l, spots, api.OK
}

// eachOf calls a function with each number that runs are of, and its place among them.
func eachOf(l []api.Run, call func(i, value int)) {
	i := 0
	for _, r := range l {
		for range r.Count {
			call(i, r.Value)
			i++
		}
	}
}

// spotsOf returns where the samples of a table are.
func spotsOf(t api.Table, l []api.Sample) ([]api.Spot, api.Fault) {
	var spots []api.Spot
	run := 0
	for chunk, place := range t.Places {
		if run+1 < len(t.Chunks) && t.Chunks[run+1].First == chunk+1 {
			run++
		}
		for range t.Chunks[run].Samples {
			size := l[len(spots)].Size
			spots = append(spots, api.Spot{Place: place, Size: size})
			place += size
			if place > api.MaxFile {
				return nil, api.ErrRange
			}
		}
	}
	return spots, api.OK
}

// Compact returns the table of samples with so many samples in each chunk, and the places of the chunks.
func Compact(l []api.Sample, chunks, places []int) (api.Table, api.Fault) {
	fault := check.First(
		CheckSamples(l),
		check.If(len(chunks) != len(places), api.ErrForm),
		checkEach(chunks, 1, api.MaxChunk),
		check.If(sum(chunks) != len(l), api.ErrForm),
		checkEach(places, 0, api.MaxFile),
	)
	if fault != api.OK {
		return api.Table{}, fault
	}
	t := api.Table{Sizes: sizesOf(l), Keys: keysOf(l), Places: copied(places)}
	if len(l) > 0 {
		t.Start = l[0].Time
	}
	for _, s := range l {
		t.Steps = appendRun(t.Steps, s.Step)
		t.Shifts = appendRun(t.Shifts, s.Shift)
	}
	for i, samples := range chunks {
		if i == 0 || samples != chunks[i-1] {
			t.Chunks = append(t.Chunks, api.ChunkRun{First: i + 1, Samples: samples})
		}
	}
	return t, api.OK
}

func sum(l []int) int {
	n := 0
	for _, x := range l {
		n += x
	}
	return n
}

// appendRun appends a number to runs, to the last one of them, if that is of the same number.
func appendRun(l []api.Run, value int) []api.Run {
	if n := len(l); n > 0 && l[n-1].Value == value {
		l[n-1].Count++
		return l
	}
	return append(l, api.Run{Count: 1, Value: value})
}

// sizesOf returns the sizes of samples: just one, if all are equal.
func sizesOf(l []api.Sample) []int {
	var sizes []int
	equal := true
	for _, s := range l {
		sizes = append(sizes, s.Size)
		equal = equal && s.Size == sizes[0]
	}
	if equal && len(sizes) > 0 {
		return []int{sizes[0]}
	}
	return sizes
}

// keysOf returns the numbers of the samples that are keys: nil stands for all, so that none is an empty list.
func keysOf(l []api.Sample) []int {
	keys := []int{}
	for i, s := range l {
		if s.Key {
			keys = append(keys, i+1)
		}
	}
	if len(keys) == len(l) {
		return nil
	}
	return keys
}
