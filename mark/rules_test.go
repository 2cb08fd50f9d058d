package mark_test

import (
	"fmt"
	"testing"

	"headend/api"
	"headend/mark"
)

// G1, G3: no argument makes a function panic, and with a fault the results are zero.
func TestAnyNumbers(t *testing.T) {
	for _, a := range numbers {
		for _, b := range numbers {
			what := fmt.Sprint(" ", a, " ", b)
			anyCue(t, what, a, b)
			anyBreaks(t, what, a, b)
			for _, l := range [][]api.Part{{film(a, b)}, {film(0, 5), spot("a", a), film(b, a)}, {spot("a", api.MaxTime-5), film(b, a)}, example()} {
				anyParts(t, what, l, a, b)
			}
		}
	}
}

func anyCue(t *testing.T, what string, a, b int) {
	for kind := -1; kind <= 4; kind++ {
		for _, c := range []api.Cue{{Kind: kind, Event: a, Time: b, Length: a}, {Kind: a, Event: b}, {Kind: kind, Event: 1, Time: a, Length: b, Auto: true}, {Kind: kind, Now: true, Length: a, Auto: true}} {
			bytes, f := mark.CueBytes(c)
			isWhole(t, "CueBytes"+what, bytes, f)
			isFault(t, "CheckCue"+what, mark.CheckCue(c), f)
			if f == api.OK && len(bytes) > 20 {
				t.Error("CueBytes"+what, len(bytes))
			}
			for _, at := range []int{a, b, 0} {
				breaks, idle, f := mark.Breaks([]api.Heard{{At: at, Cue: c}, {At: a, Cue: c}})
				isWhole(t, "Breaks"+what, made{breaks, idle}, f)
			}
		}
	}
}

func anyBreaks(t *testing.T, what string, a, b int) {
	for _, l := range [][]api.Break{{breakOf(a, b, a)}, {breakOf(1, a, b)}, {breakOf(1, 2, a), breakOf(2, b, -1)}} {
		short, f := mark.Shortened(l, a)
		isWhole(t, "Shortened"+what, short, f)
		ads := make([][]api.Ad, len(l))
		for i := range ads {
			ads[i] = []api.Ad{{Name: "a", Length: b, Value: a}, {Name: "b", Length: a}}
		}
		parts, f := mark.Replaced(a, l, ads)
		isWhole(t, "Replaced"+what, parts, f)
		parts, f = mark.Replaced(api.MaxTime, l, ads)
		isWhole(t, "Replaced"+what, parts, f)
	}
	ads := []api.Ad{{Name: "a", Length: a, Value: b, Rival: "x"}, {Name: "b", Length: b, Value: a}, {Name: "c", Length: 1, Value: api.MaxValue, Rival: "x"}}
	for _, length := range []int{a, b} {
		best, value, f := mark.Fill(ads, length)
		isWhole(t, "Fill"+what, choice{best, value}, f)
		best, value, f = mark.Fill(ads[2:], length)
		isWhole(t, "Fill"+what, choice{best, value}, f)
		parts, f := mark.Inserted(length, []int{a, b}, [][]api.Ad{ads, ads})
		isWhole(t, "Inserted"+what, parts, f)
		parts, f = mark.Inserted(length, []int{a}, [][]api.Ad{ads[2:]})
		isWhole(t, "Inserted"+what, parts, f)
	}
}

func anyParts(t *testing.T, what string, l []api.Part, a, b int) {
	i, n, f := mark.Place(l, a)
	isWhole(t, "Place"+what, pair{i, n}, f)
	n, isPlayed, f := mark.Programme(l, b)
	isWhole(t, "Programme"+what, shown{n, isPlayed}, f)
	at, f := mark.Stitched(l, a)
	isWhole(t, "Stitched"+what, at, f)
	n, f = mark.Resume(l, []int{a}, b)
	isWhole(t, "Resume"+what, n, f)
	n, f = mark.Resume(l, nil, b)
	isWhole(t, "Resume"+what, n, f)
	due, f := mark.Due(l, a, b)
	isWhole(t, "Due"+what, due, f)
	counts, idle, f := mark.Counts(l, []api.Event{told("s", a, "a", 1), told("s", 1, "a", b)})
	isWhole(t, "Counts"+what, counted{counts, idle}, f)
}

// G2: arguments are not changed, nor what lies behind them, and results are new memory.
func TestMemory(t *testing.T) {
	bytes := bytesOf(cues[1])
	kept(t, "Sum", bytes, func(b []byte) api.Fault { mark.Sum(b); return api.OK })
	kept(t, "ReadCue", bytes, func(b []byte) api.Fault { _, _, f := mark.ReadCue(b); return f })
	heard := heardAt(5, outFor(1, 20, 10), outFor(2, 40, 10), cancel(1), in(2, 45), out(3, 60), api.Cue{})
	kept(t, "Breaks", heard, func(l []api.Heard) api.Fault { _, _, f := mark.Breaks(l); return f })
	breaks := broken(2, 4, 6, 8, 10, -1)
	kept(t, "CheckBreaks", breaks, mark.CheckBreaks)
	kept(t, "Shortened", breaks, func(l []api.Break) api.Fault {
		short, f := mark.Shortened(l, 7)
		clear(short[:cap(short)])
		short, g := mark.Shortened(l, api.MaxTime)
		clear(short[:cap(short)])
		return max(f, g)
	})
	ads := rivals(worth(5, 4, 3, 2, 1, 0), "x", "x", "")
	kept(t, "Fill", ads, func(l []api.Ad) api.Fault { _, _, f := mark.Fill(l, 7); return f })
	kept(t, "Inserted", []int{3, 6}, func(at []int) api.Fault { _, f := mark.Inserted(9, at, [][]api.Ad{ads, ads}); return f })
	kept(t, "Inserted", ads, func(l []api.Ad) api.Fault {
		_, f := mark.Inserted(9, []int{3, 6}, [][]api.Ad{l, l[:1]})
		return f
	})
	kept(t, "Inserted", [][]api.Ad{ads, nil}, func(l [][]api.Ad) api.Fault { _, f := mark.Inserted(9, []int{3, 6}, l); return f })
	kept(t, "Replaced", breaks, func(l []api.Break) api.Fault { _, f := mark.Replaced(15, l, [][]api.Ad{ads, nil, ads}); return f })
	kept(t, "Replaced", ads, func(l []api.Ad) api.Fault {
		_, f := mark.Replaced(15, breaks, [][]api.Ad{l, nil, l[:1]})
		return f
	})
	kept(t, "CheckParts", example(), mark.CheckParts)
	kept(t, "Place", example(), func(l []api.Part) api.Fault { _, _, f := mark.Place(l, 50); return f })
	kept(t, "Programme", example(), func(l []api.Part) api.Fault { _, _, f := mark.Programme(l, 50); return f })
	kept(t, "Stitched", example(), func(l []api.Part) api.Fault { _, f := mark.Stitched(l, 60); return f })
	kept(t, "Resume", example(), func(l []api.Part) api.Fault { _, f := mark.Resume(l, []int{1}, 60); return f })
	kept(t, "Resume", []int{2, 1}, func(l []int) api.Fault { _, f := mark.Resume(example(), l, 60); return f })
	kept(t, "Due", example(), func(l []api.Part) api.Fault { _, f := mark.Due(l, 0, 100); return f })
	events := []api.Event{told("s", 1, "a", 2), told("s", 1, "a", 1), told("r", 9, "a", 1)}
	kept(t, "Counts", example(), func(l []api.Part) api.Fault { _, _, f := mark.Counts(l, events); return f })
	kept(t, "Counts", events, func(l []api.Event) api.Fault { _, _, f := mark.Counts(example(), l); return f })
}

// G2: results share nothing with what later calls return.
func TestNewResults(t *testing.T) {
	for range 2 {
		b, f := mark.CueBytes(cues[0])
		is(t, "CueBytes", b, f, bytesOf(cues[0]))
		clear(b[:cap(b)])
		breaks, idle, f := mark.Breaks(heardAt(0, out(1, 5), api.Cue{}))
		is(t, "Breaks", made{breaks, idle}, f, made{[]api.Break{breakOf(1, 5, -1)}, []int{1}})
		clear(breaks[:cap(breaks)])
		clear(idle[:cap(idle)])
		counts, idle, f := mark.Counts(example(), nil)
		is(t, "Counts", counted{counts, idle}, f, counted{[]api.Count{count("a"), count("b")}, nil})
		clear(counts[:cap(counts)])
	}
}

// G4: an empty list is as good as nil.
func TestEmptyLists(t *testing.T) {
	if mark.Sum([]byte{}) != mark.Sum(nil) {
		t.Error("Sum")
	}
	c, place, f := mark.ReadCue([]byte{})
	isNot(t, "ReadCue", read{c, place}, f, api.ErrSyntax)
	breaks, idle, f := mark.Breaks([]api.Heard{})
	is(t, "Breaks", made{breaks, idle}, f, made{})
	isFault(t, "CheckBreaks", mark.CheckBreaks([]api.Break{}), api.OK)
	breaks, f = mark.Shortened([]api.Break{}, 5)
	is(t, "Shortened", breaks, f, nil)
	numbers, value, f := mark.Fill([]api.Ad{}, 5)
	is(t, "Fill", choice{numbers, value}, f, choice{})
	l, f := mark.Inserted(0, []int{}, nil)
	is(t, "Inserted", l, f, nil)
	l, f = mark.Replaced(0, nil, [][]api.Ad{})
	is(t, "Replaced", l, f, nil)
	isFault(t, "CheckParts", mark.CheckParts([]api.Part{}), api.OK)
	i, n, f := mark.Place([]api.Part{}, 0)
	isNot(t, "Place", pair{i, n}, f, api.ErrNone)
	n, isPlayed, f := mark.Programme([]api.Part{}, 0)
	isNot(t, "Programme", shown{n, isPlayed}, f, api.ErrNone)
	at, f := mark.Stitched([]api.Part{}, 0)
	is(t, "Stitched", at, f, nil)
	n, f = mark.Resume([]api.Part{}, []int{}, 0)
	is(t, "Resume", n, f, 0)
	due, f := mark.Due([]api.Part{}, 0, 5)
	is(t, "Due", due, f, nil)
	counts, idle, f := mark.Counts([]api.Part{}, []api.Event{})
	is(t, "Counts", counted{counts, idle}, f, counted{})
}
