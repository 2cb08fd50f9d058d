package cut_test

import (
	"fmt"
	"math/rand"
	"slices"
	"strings"
	"testing"

	"headend/api"
	"headend/cut"
)

// badRendition is a rendition with all that comes after a fault wrong as well, where this can be.
type badRendition struct {
	what string
	r    api.Strand
	want api.Fault
}

func badRenditions() []badRendition {
	long := make([]api.Sample, api.MaxSamples+1)
	good := line(3, 0, 1, 0)
	l := []badRendition{
		{"no name", api.Strand{}, api.ErrName},
		{"name", pictures("A", 0, long), api.ErrName},
		{"long name", pictures(strings.Repeat("a", api.MaxName+1), 1, good), api.ErrName},
		{"scale 0", pictures("x", 0, long), api.ErrRange},
		{"scale below 0", pictures("x", -1, nil), api.ErrRange},
		{"scale", pictures("x", api.MaxScale+1, good), api.ErrRange},
		{"too many", pictures("x", 1, long), api.ErrLarge},
		{"step", pictures("x", 1, []api.Sample{{Step: -1}}), api.ErrRange},
		{"gap", pictures("x", 1, []api.Sample{{Step: 1}, {Time: 2}}), api.ErrOrder},
		{"end", pictures("x", 1, []api.Sample{{Time: api.MaxTime, Step: 1}}), api.ErrRange},
		{"no samples", pictures("x", 1, nil), api.ErrNone},
	}
	for _, c := range slices.Clone(l) {
		c.what, c.r.Sound = "sound with "+c.what, true
		l = append(l, c)
	}
	return l
}

func TestCheckRenditions(t *testing.T) {
	good := line(3, 0, 1, 0)
	a, b, tone := pictures("a", 1, good), pictures("b", api.MaxScale, good), sound("s", 1, good)
	var many []api.Strand
	for i := range api.MaxStrands + 1 {
		many = append(many, pictures(fmt.Sprint("n", i), 1, good))
	}
	twice := many[0]
	twice.Scale = 0
	for what, c := range map[string]struct {
		l    []api.Strand
		want api.Fault
	}{
		"one":                  {[]api.Strand{a}, api.OK},
		"three":                {[]api.Strand{a, b, tone}, api.OK},
		"two that are Sound":   {[]api.Strand{a, tone, sound("u", 7, good)}, api.OK},
		"most":                 {many[:api.MaxStrands], api.OK},
		"a key nowhere":        {[]api.Strand{pictures("a", 1, line(2, 0, 1))}, api.OK},
		"none":                 {nil, api.ErrNone},
		"too many":             {many, api.ErrLarge},
		"too many bad":         {make([]api.Strand, api.MaxStrands+1), api.ErrLarge},
		"twice":                {[]api.Strand{a, b, pictures("a", 2, good)}, api.ErrTwice},
		"twice, once Sound":    {[]api.Strand{a, sound("a", 2, good)}, api.ErrTwice},
		"twice, and the scale": {[]api.Strand{many[0], twice}, api.ErrTwice},
		"twice no name":        {[]api.Strand{a, pictures("", 1, good), pictures("", 1, good)}, api.ErrName},
		"Sound":                {[]api.Strand{tone, a}, api.ErrKind},
		"just Sound":           {[]api.Strand{tone}, api.ErrKind},
		"Sound, and another":   {[]api.Strand{tone, twice}, api.ErrRange}, // all that is wrong comes before the kind
		"Sound, and none":      {[]api.Strand{tone, pictures("a", 1, nil)}, api.ErrNone},
		"one after another":    {[]api.Strand{a, pictures("b", 1, nil), pictures("", 1, good)}, api.ErrNone},
	} {
		if f := cut.CheckRenditions(c.l); f != c.want {
			t.Error("CheckRenditions", what, f)
		}
	}
	for _, c := range badRenditions() {
		for _, l := range [][]api.Strand{{c.r}, {a, c.r}, {a, tone, c.r, pictures("", 0, nil)}} {
			if f := cut.CheckRenditions(l); f != c.want {
				t.Error("CheckRenditions", len(l), c.what, f)
			}
		}
	}
}

// The fault of the renditions comes before all others.
func TestRenditionFaults(t *testing.T) {
	good := pictures("a", 1, line(3, 0, 1, 0))
	for _, c := range badRenditions() {
		places, f := cut.Places(c.r)
		isNot(t, "Places "+c.what, places, f, c.want)
		for _, scale := range []int{0, 1} {
			l, f := cut.Segments(c.r, scale, nil, -1)
			isNot(t, "Segments "+c.what, l, f, c.want)
		}
		for _, target := range []int{0, 1} {
			l, f := cut.Pieces(c.r, api.Segment{}, target)
			isNot(t, "Pieces "+c.what, l, f, c.want)
		}
		for _, l := range [][]api.Strand{{c.r}, {good, c.r}} {
			renditionFaults(t, c.what, l, c.want)
		}
	}
	renditionFaults(t, "none", nil, api.ErrNone)
	renditionFaults(t, "Sound", []api.Strand{sound("s", 1, line(3, 0, 1, 0))}, api.ErrKind)
	renditionFaults(t, "twice", []api.Strand{good, good}, api.ErrTwice)
}

// renditionFaults calls all functions with a list of renditions.
func renditionFaults(t *testing.T, what string, l []api.Strand, want api.Fault) {
	t.Helper()
	places, f := cut.Common(l)
	isNot(t, "Common "+what, places, f, want)
	for _, bounds := range [][]int{nil, {0}} {
		all, f := cut.All(l, bounds, -1)
		isNot(t, "All "+what, all, f, want)
	}
	for _, segments := range [][][]api.Segment{nil, make([][]api.Segment, len(l))} {
		i, k, f := cut.Fits(l, segments)
		isNot(t, "Fits "+what, pair{i, k}, f, want)
	}
}

// A single rendition may be Sound.
func TestSingleSound(t *testing.T) {
	tone := sound("s", 1, line(4, 0, 1, 0, 2))
	places, f := cut.Places(tone)
	is(t, "Places", places, f, []int{0, 2})
	l, f := cut.Segments(tone, 1, []int{0}, 0)
	is(t, "Segments", len(l), f, 1)
	p, f := cut.Pieces(tone, api.Segment{To: 4}, 9)
	is(t, "Pieces", len(p), f, 1)
}

func TestPlaces(t *testing.T) {
	for _, c := range []struct {
		l    []api.Sample
		want []int
	}{
		{line(20, 0, 1, 0, 4, 7, 10, 13), []int{0, 4, 7, 10, 13}},
		{line(5, -3, 2, 1, 3), []int{-1, 3}}, // the first sample is no Key
		{line(5, 0, 1), nil},
		{line(1, 7, 0, 0), []int{7}},
		{keyed(timed(-10, 10, 10, 10, 30, 10, 0, 10, 0), 0), []int{0}},
		{keyed(timed(0, 1, 5, 1, 5, 1, 2, 1, 9), 0, 1, 3), []int{5, 12}}, // the second group begins with a sample that is presented after another one
		{keyed(timed(0, 1, 3, 1, 2, 1, 0, 1, 2), 0, 1, 2, 3), []int{3, 5}},
		{keyed(timed(api.MaxTime-1, 1, api.MaxStep), 0), []int{api.MaxTime - 1 + api.MaxStep}}, // no time
		{keyed(timed(-api.MaxTime, 0, -api.MaxStep), 0), []int{-api.MaxTime - api.MaxStep}},
	} {
		got, f := cut.Places(pictures("a", 1, c.l))
		is(t, fmt.Sprint("Places ", c.l), got, f, c.want)
	}
}

func TestManyPlaces(t *testing.T) {
	r := rand.New(rand.NewSource(1))
	for range 3000 {
		l := draw(r, 10)
		var want []int
		for _, i := range closed(l) {
			want = append(want, presents(l)[i])
		}
		got, f := cut.Places(pictures("a", 3, l))
		is(t, fmt.Sprint("Places ", l), got, f, want)
	}
}

// There are as many places as samples.
func TestMostPlaces(t *testing.T) {
	l := line(api.MaxSamples, 0, 1)
	var want []int
	for i := range l {
		l[i].Key = true
		want = append(want, i)
	}
	got, f := cut.Places(pictures("a", 1, l))
	is(t, "Places", got, f, want)
	got, f = cut.Common([]api.Strand{pictures("a", 1, l), pictures("b", 1, l)})
	is(t, "Common", got, f, want)
}

func TestCommon(t *testing.T) {
	a := pictures("a", 1, line(20, 0, 1, 0, 4, 7, 10, 13))
	b := pictures("b", 2, line(20, 0, 2, 0, 5, 7, 13)) // at 0, 10, 14 and 26 half seconds
	none := pictures("c", 1, line(20, 0, 1))
	tone := sound("s", 3, line(9, 100, 1, 0))
	for what, c := range map[string]struct {
		l    []api.Strand
		want []int
	}{
		"one":                      {[]api.Strand{a}, []int{0, 4, 7, 10, 13}},
		"two":                      {[]api.Strand{a, b}, []int{0, 7, 13}},
		"in ticks of the first":    {[]api.Strand{b, a}, []int{0, 14, 26}},
		"Sound does not matter":    {[]api.Strand{a, tone, b}, []int{0, 7, 13}},
		"with one that has none":   {[]api.Strand{a, b, none}, nil},
		"the first one has none":   {[]api.Strand{none, a}, nil},
		"between ticks":            {[]api.Strand{pictures("a", 3, line(4, 0, 1, 0, 1, 2, 3)), pictures("b", 2, line(4, 0, 1, 0, 1, 2, 3))}, []int{0, 3}},
		"below 0":                  {[]api.Strand{pictures("a", 3, line(7, -6, 1, 0, 1, 2, 3, 4, 5)), pictures("b", 2, line(4, -4, 1, 0, 1, 2, 3))}, []int{-6, -3}},
		"not almost":               {[]api.Strand{pictures("a", api.MaxScale, keyed(timed(api.MaxTime, 0, 0), 0)), pictures("b", api.MaxScale-1, keyed(timed(api.MaxTime-1000000, 0, 1), 0))}, nil},
		"the greatest that can be": {[]api.Strand{pictures("a", api.MaxScale, keyed(timed(api.MaxTime, 0, 0), 0)), pictures("b", api.MaxScale-1, keyed(timed(api.MaxTime-1000000, 0, 0), 0))}, []int{api.MaxTime}},
	} {
		got, f := cut.Common(c.l)
		is(t, "Common "+what, got, f, c.want)
	}
}

func TestManyCommon(t *testing.T) {
	r := rand.New(rand.NewSource(2))
	found := 0
	for range 3000 {
		var l []api.Strand
		for i := range 1 + r.Intn(3) {
			l = append(l, api.Strand{Name: string(rune('a' + i)), Scale: 1 + r.Intn(3), Sound: i > 0 && r.Intn(3) == 0, Samples: draw(r, 12)})
		}
		var want []int
		for _, i := range closed(l[0].Samples) {
			at, all := presents(l[0].Samples)[i], true
			for _, other := range l[1:] {
				there := other.Sound
				for _, k := range closed(other.Samples) {
					there = there || presents(other.Samples)[k]*l[0].Scale == at*other.Scale
				}
				all = all && there
			}
			if all {
				want = append(want, at)
			}
		}
		if len(l) > 1 {
			found += len(want)
		}
		got, f := cut.Common(l)
		is(t, fmt.Sprint("Common ", l), got, f, want)
	}
	if found < 500 {
		t.Error("too few common places", found)
	}
}
