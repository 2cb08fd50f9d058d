package box_test

import (
	"fmt"
	"testing"

	"headend/api"
	"headend/box"
)

func TestCheckSamples(t *testing.T) {
	for what, l := range map[string][]api.Sample{
		"none":     nil,
		"one":      {{}},
		"all":      manySamples(api.MaxSamples),
		"greatest": {{Time: api.MaxTime - api.MaxStep, Step: api.MaxStep, Shift: api.MaxStep, Size: api.MaxSampleSize, Key: true}},
		"least":    {{Time: -api.MaxTime, Shift: -api.MaxStep}, {Time: -api.MaxTime, Step: 1}, {Time: -api.MaxTime + 1}},
		"last":     {{Time: api.MaxTime}, {Time: api.MaxTime}},
		"gapless":  samplesOf(0, 5, 0, 7),
	} {
		if f := box.CheckSamples(l); f != api.OK {
			t.Error("CheckSamples", what, f)
		}
	}
}

// badSamples are lists, and the faults that they have.
var badSamples = map[string]struct {
	l    []api.Sample
	want api.Fault
}{
	"too many":          {manySamples(api.MaxSamples + 1), api.ErrLarge},
	"time too great":    {[]api.Sample{{Time: api.MaxTime + 1}}, api.ErrRange},
	"time too small":    {[]api.Sample{{Time: -api.MaxTime - 1}}, api.ErrRange},
	"step -1":           {[]api.Sample{{Step: -1}}, api.ErrRange},
	"step too great":    {[]api.Sample{{Step: api.MaxStep + 1}}, api.ErrRange},
	"shift too small":   {[]api.Sample{{Shift: -api.MaxStep - 1}}, api.ErrRange},
	"shift too great":   {[]api.Sample{{Shift: api.MaxStep + 1}}, api.ErrRange},
	"size -1":           {[]api.Sample{{Size: -1}}, api.ErrRange},
	"size too great":    {[]api.Sample{{Size: api.MaxSampleSize + 1}}, api.ErrRange},
	"gap":               {[]api.Sample{{Step: 1}, {Time: 2}}, api.ErrOrder},
	"back":              {[]api.Sample{{Step: 1}, {Time: 0}}, api.ErrOrder},
	"second":            {[]api.Sample{{Step: 1}, {Time: 1, Size: -1}}, api.ErrRange},
	"end":               {[]api.Sample{{Time: api.MaxTime, Step: 1}}, api.ErrRange},
	"end of the second": {[]api.Sample{{Time: api.MaxTime - 1, Step: 1}, {Time: api.MaxTime, Step: 1}}, api.ErrRange},
	// the first of several faults
	"too many, then time":     {append([]api.Sample{{Time: api.MaxTime + 1}}, manySamples(api.MaxSamples)...), api.ErrLarge},
	"size, then order":        {[]api.Sample{{Step: 1}, {Time: 5, Size: -1}}, api.ErrRange},
	"order, then the next":    {[]api.Sample{{Step: 1}, {Time: 5}, {Time: 5, Size: -1}}, api.ErrOrder},
	"order, then the end":     {[]api.Sample{{Step: 1}, {Time: api.MaxTime, Step: 1}}, api.ErrOrder},
	"first, then the second":  {[]api.Sample{{Step: -1}, {Time: 5}}, api.ErrRange},
	"a time beyond the times": {[]api.Sample{{Time: api.MaxTime, Step: 1}, {Time: api.MaxTime + 1}}, api.ErrRange},
}

// The faults of samples are also those of all that takes samples, before all others.
func TestSampleFaults(t *testing.T) {
	for what, c := range badSamples {
		if f := box.CheckSamples(c.l); f != c.want {
			t.Error("CheckSamples", what, f, c.want)
		}
		table, f := box.Compact(c.l, []int{0}, nil)
		isNot(t, "Compact "+what, table, f, c.want)
		b, f := box.FragmentBytes(api.Fragment{Samples: c.l})
		isNot(t, "FragmentBytes "+what, b, f, c.want)
		parts, f := box.Fragments(c.l, 0)
		isNot(t, "Fragments "+what, parts, f, c.want)
		l, f := box.Joined([]api.Fragment{{Samples: c.l}, {Number: -1}})
		isNot(t, "Joined "+what, l, f, c.want)
		track := api.Track{Name: "a", Scale: 1, Samples: c.l, Edits: []api.Edit{{}}}
		f = box.CheckFilm(api.Film{Scale: 1, Tracks: []api.Track{track}})
		if f != c.want {
			t.Error("CheckFilm", what, f, c.want)
		}
	}
}

// G1: no argument makes a function panic, and with a fault the results are zero.
func TestAnyNumbers(t *testing.T) {
	for _, a := range numbers {
		for _, b := range numbers {
			what := fmt.Sprint(a, " ", b)
			l := []api.Sample{{Time: a, Step: b, Shift: a, Size: b}, {Time: b, Step: a, Size: a}}
			anySampleCalls(t, what, l, a, b)
			anyTableCalls(t, what, a, b)
			anyFilmCalls(t, what, l, a, b)
		}
	}
}

func zero[V any](t *testing.T, what string, v V, f api.Fault) {
	t.Helper()
	if f != api.OK {
		isNot(t, what, v, f, f)
	}
}

func anySampleCalls(t *testing.T, what string, l []api.Sample, a, b int) {
	table, f := box.Compact(l, []int{a, b}, []int{b, a})
	zero(t, "Compact "+what, table, f)
	bytes, f := box.FragmentBytes(api.Fragment{Number: a, Samples: l[:1]})
	zero(t, "FragmentBytes "+what, bytes, f)
	parts, f := box.Fragments(l[:1], a)
	zero(t, "Fragments "+what, parts, f)
	joint, f := box.Joined([]api.Fragment{{Number: a, Samples: l[:1]}, {Number: b, Samples: l[1:]}})
	zero(t, "Joined "+what, joint, f)
	packed, f := box.Pack([]api.Box{{Kind: "data", Form: a}, {Kind: "film", Form: b, Kids: []api.Box{{}}}})
	zero(t, "Pack "+what, packed, f)
}

func anyTableCalls(t *testing.T, what string, a, b int) {
	both := runs(a, b, b, a)
	for _, table := range []api.Table{
		{Start: a, Steps: both, Shifts: both, Sizes: []int{a}, Keys: []int{a, b}, Chunks: chunkRuns(a, b), Places: []int{a, b}},
		{Steps: both, Shifts: both, Sizes: []int{a}, Keys: []int{b}, Chunks: chunkRuns(1, a), Places: []int{b}},
		{Start: a, Sizes: []int{b}}, {Keys: []int{a}}, {Chunks: chunkRuns(a, b)}, {Places: []int{a}},
		{Steps: both[:1], Shifts: both[:1], Sizes: []int{1}, Chunks: chunkRuns(1, 1, a, b), Places: []int{0, b}},
	} {
		l, where, f := box.Expand(table)
		zero(t, "Expand "+what, l, f)
		zero(t, "Expand "+what, where, f)
		bytes, f := box.TableBytes(table)
		zero(t, "TableBytes "+what, bytes, f)
	}
}

func anyFilmCalls(t *testing.T, what string, l []api.Sample, a, b int) {
	for _, film := range []api.Film{
		{Scale: a, Tracks: []api.Track{{Name: "a", Scale: b}}},
		{Scale: 1, Tracks: []api.Track{{Name: "a", Scale: api.MaxScale, Samples: l[:1], Edits: []api.Edit{{Length: a, Media: b}, {Length: b, Media: a}}}}},
		{Scale: api.MaxScale, Tracks: []api.Track{{Name: "a", Scale: 1, Samples: l[1:]}}},
		{Scale: 1, Tracks: []api.Track{{Name: "a", Scale: api.MaxScale, Samples: l[1:]}}},
	} {
		for _, track := range []int{0, a} {
			n, f := box.Lasts(film, track)
			zero(t, "Lasts "+what, n, f)
			for _, at := range []int{a, b} {
				n, f = box.MediaAt(film, track, at)
				zero(t, "MediaAt "+what, n, f)
				spans, f := box.FilmAt(film, track, at)
				zero(t, "FilmAt "+what, spans, f)
			}
			spans, f := box.Shown(film, track)
			zero(t, "Shown "+what, spans, f)
		}
		bytes, f := box.WriteFilm(film, [][]byte{{1}}, a)
		zero(t, "WriteFilm "+what, bytes, f)
	}
}
