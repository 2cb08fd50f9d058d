package cut_test

import (
	"fmt"
	"reflect"
	"slices"
	"testing"

	"headend/api"
	"headend/cut"
)

// G1, G3: no argument makes a function panic, and with a fault the results are zero.
func TestAnyNumbers(t *testing.T) {
	for _, a := range numbers {
		for _, b := range numbers {
			what := fmt.Sprint(" ", a, " ", b)
			anyPlaces(t, what, a, b)
			for _, l := range [][]api.Segment{
				{{Number: a, From: a, To: b, Begin: a, Length: b, Bytes: a, Lead: b}},
				{{Number: a, To: b, Begin: b, Length: a, Bytes: b, Lead: a}, {Number: b, From: b, To: a, Begin: a, Length: b, Bytes: a, Lead: a}},
				{{To: 1, Begin: a, Bytes: 1}, {Number: 1, From: 1, To: 2, Begin: b, Bytes: 1, Lead: a}},
			} {
				anySegments(t, what, l, a, b)
			}
			for _, samples := range [][]api.Sample{{{Time: a, Step: b, Key: true}}, {{Time: a, Shift: b, Key: true}}, line(3, 0, 1, 0, 1)} {
				for _, isSound := range []bool{false, true} {
					anyStrands(t, what, api.Strand{Name: "a", Scale: 1, Sound: isSound, Samples: samples}, a, b)
					anyStrands(t, what, api.Strand{Name: "a", Scale: b, Sound: isSound, Samples: samples}, a, b)
				}
			}
		}
	}
}

func anyPlaces(t *testing.T, what string, a, b int) {
	for _, places := range [][]int{{a}, {a, b}, {0, 5}} {
		for _, w := range []api.Wish{{Scale: a, Target: b, Most: b}, {Scale: 1, Target: a, Most: b}, {Scale: 1, Target: 1, Most: mostTicks}} {
			l, sum, f := cut.Choose(places, b, w)
			isWhole(t, "Choose"+what, l, f)
			isWhole(t, "Choose"+what, sum, f)
			l, f = cut.Grid(places, w)
			isWhole(t, "Grid"+what, l, f)
		}
	}
}

func anySegments(t *testing.T, what string, l []api.Segment, a, b int) {
	millis, f := cut.Millis(l, a)
	isWhole(t, "Millis"+what, millis, f)
	merged, f := cut.Merged(l, b)
	isWhole(t, "Merged"+what, merged, f)
	index, f := cut.IndexBytes(l, b)
	isWhole(t, "IndexBytes"+what, index, f)
	ranges, f := cut.Ranges(l, a)
	isWhole(t, "Ranges"+what, ranges, f)
	i, ticks, f := cut.Seek(l, b)
	isWhole(t, "Seek"+what, pair{i, ticks}, f)
	bytes, f := cut.Fetch(l, api.Span{From: a, To: b}, b)
	isWhole(t, "Fetch"+what, bytes, f)
	two := pictures("p", 1, line(2, 0, 1))
	for _, isSound := range []bool{false, true} {
		other := api.Strand{Name: "q", Scale: api.MaxScale, Sound: isSound, Samples: line(2, 0, 1)}
		i, k, f := cut.Fits([]api.Strand{two, other}, [][]api.Segment{l, l})
		if f == api.OK && (i != 0 || k != 0) || i < 0 || i > 1 || k < 0 || k >= len(l) {
			t.Error("Fits"+what, i, k, f)
		}
	}
	read, n, place, f := cut.ReadIndex(indexOf(b, a, b, len(l), slices.Repeat([]int{a, b}, len(l))...))
	isWhole(t, "ReadIndex"+what, read, f)
	if f != api.OK && n != 0 || place != 0 {
		t.Error("ReadIndex"+what, n, place, f)
	}
}

func anyStrands(t *testing.T, what string, r api.Strand, a, b int) {
	places, f := cut.Places(r)
	isWhole(t, "Places"+what, places, f)
	other := pictures("q", api.MaxScale, line(3, 0, 1, 0, 2))
	common, f := cut.Common([]api.Strand{other, r})
	isWhole(t, "Common"+what, common, f)
	for _, bounds := range [][]int{{a}, {0, b}, {a, b}} {
		l, f := cut.Segments(r, b, bounds, a)
		isWhole(t, "Segments"+what, l, f)
		l, f = cut.Segments(r, 1, bounds, 0)
		isWhole(t, "Segments"+what, l, f)
		all, f := cut.All([]api.Strand{other, r}, bounds, 0)
		isWhole(t, "All"+what, all, f)
	}
	pieces, f := cut.Pieces(r, api.Segment{From: a, To: b}, a)
	isWhole(t, "Pieces"+what, pieces, f)
	pieces, f = cut.Pieces(r, api.Segment{To: 1}, b)
	isWhole(t, "Pieces"+what, pieces, f)
}

// G2: arguments are not changed, and results are new memory.
func TestMemory(t *testing.T) {
	w := wish(6, 8)
	places := []int{0, 4, 7, 10, 13}
	guarded(t, "Choose", places, func(l []int) ([]int, api.Fault) { x, _, f := cut.Choose(l, 20, w); return x, f })
	guarded(t, "Choose all", places, func(l []int) ([]int, api.Fault) { x, _, f := cut.Choose(l, 20, wish(3, 20)); return x, f })
	guarded(t, "Grid", places, func(l []int) ([]int, api.Fault) { return cut.Grid(l, w) })
	guarded(t, "Grid of all", places, func(l []int) ([]int, api.Fault) { return cut.Grid(l, wish(1, 1)) })
	guarded(t, "Segments by bounds", []int{0, 7, 13}, func(l []int) ([]api.Segment, api.Fault) { return cut.Segments(film(), 1, l, 0) })
	guarded(t, "All by bounds", []int{0, 7, 13}, func(l []int) ([][]api.Segment, api.Fault) {
		return cut.All([]api.Strand{film(), tones()}, l, 0)
	})
	samples := film().Samples
	guarded(t, "Places", samples, func(l []api.Sample) ([]int, api.Fault) { return cut.Places(pictures("p", 1, l)) })
	guarded(t, "Common", samples, func(l []api.Sample) ([]int, api.Fault) {
		return cut.Common([]api.Strand{pictures("p", 1, l), pictures("q", 1, l)})
	})
	guarded(t, "Segments", samples, func(l []api.Sample) ([]api.Segment, api.Fault) {
		return cut.Segments(pictures("p", 1, l), 1, []int{0, 7}, 0)
	})
	guarded(t, "Segments of sound", samples, func(l []api.Sample) ([]api.Segment, api.Fault) {
		return cut.Segments(sound("p", 1, l), 1, []int{0, 7}, 0)
	})
	guarded(t, "Pieces", samples, func(l []api.Sample) ([]api.Piece, api.Fault) {
		return cut.Pieces(pictures("p", 1, l), api.Segment{To: 20}, 3)
	})
	guarded(t, "renditions", []api.Strand{film(), tones()}, func(l []api.Strand) ([]int, api.Fault) { return cut.Common(l) })
	segments := listed(4, 10, 100, 6, 50, 4, 5, 6)
	for i := range segments {
		segments[i].From, segments[i].To = i, i+1
	}
	guarded(t, "Millis", segments, func(l []api.Segment) ([]int, api.Fault) { return cut.Millis(l, 7) })
	guarded(t, "Merged", segments, func(l []api.Segment) ([]api.Segment, api.Fault) { return cut.Merged(l, 2) })
	guarded(t, "Merged by one", segments, func(l []api.Segment) ([]api.Segment, api.Fault) { return cut.Merged(l, 1) })
	guarded(t, "IndexBytes", segments, func(l []api.Segment) ([]byte, api.Fault) { return cut.IndexBytes(l, 7) })
	guarded(t, "Ranges", segments, func(l []api.Segment) ([]api.Range, api.Fault) { return cut.Ranges(l, 7) })
	guarded(t, "Seek", segments, func(l []api.Segment) ([]int, api.Fault) { i, n, f := cut.Seek(l, 17); return []int{i, n}, f })
	guarded(t, "Fetch", segments, func(l []api.Segment) ([]api.Range, api.Fault) {
		x, f := cut.Fetch(l, api.Span{From: 12, To: 20}, 7)
		return []api.Range{x}, f
	})
	index, _ := cut.IndexBytes(segments, 7)
	guarded(t, "ReadIndex", index, func(b []byte) ([]api.Segment, api.Fault) { x, _, _, f := cut.ReadIndex(b); return x, f })
}

// G4: an empty list is as good as nil.
func TestEmptyLists(t *testing.T) {
	none := []api.Segment{}
	millis, f := cut.Millis(none, 1)
	is(t, "Millis", millis, f, nil)
	merged, f := cut.Merged(none, 1)
	is(t, "Merged", merged, f, nil)
	b, f := cut.IndexBytes(none, 1)
	is(t, "IndexBytes", b, f, indexOf(1, 0, 0, 0))
	ranges, f := cut.Ranges(none, 0)
	is(t, "Ranges", ranges, f, nil)
	i, ticks, f := cut.Seek(none, 0)
	isNot(t, "Seek", pair{i, ticks}, f, api.ErrNone)
	l, sum, f := cut.Choose([]int{}, 1, wish(1, 1))
	isNot(t, "Choose", l, f, api.ErrNone)
	isNot(t, "Choose", sum, f, api.ErrNone)
	segments, f := cut.Segments(film(), 1, []int{}, 0)
	isNot(t, "Segments", segments, f, api.ErrNone)
	all, f := cut.All([]api.Strand{}, []int{0}, 0)
	isNot(t, "All", all, f, api.ErrNone)
	read, _, place, f := cut.ReadIndex([]byte{})
	isNot(t, "ReadIndex", read, f, api.ErrSyntax)
	is(t, "ReadIndex", place, api.OK, 0)
}

// The lists that All returns share no memory, and Fits changes none of its own.
func TestMemoryOfLists(t *testing.T) {
	l := []api.Strand{film(), pictures("q", 1, film().Samples)}
	all, f := cut.All(l, []int{0, 7, 13}, 0)
	is(t, "All", len(all), f, 2)
	want := slices.Clone(all[1])
	_ = append(all[0], all[0]...)
	clear(all[0][:cap(all[0])])
	is(t, "All", all[1], f, want)
	all, _ = cut.All(l, []int{0, 7, 13}, 0)
	room := [][]api.Segment{slices.Clone(all[0]), slices.Clone(all[1]), all[0]}
	i, k, f := cut.Fits(l, room[:2])
	is(t, "Fits", pair{i, k}, f, pair{})
	if !reflect.DeepEqual(room, [][]api.Segment{all[0], all[1], all[0]}) {
		t.Error("Fits changed its arguments")
	}
}
