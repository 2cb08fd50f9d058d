package box_test

import (
	"fmt"
	"math/rand"
	"slices"
	"testing"

	"headend/api"
	"headend/box"
)

// fragments are fragments, and the bytes that they are.
var fragments = map[string]struct {
	f api.Fragment
	b []byte
}{
	"none":          {api.Fragment{Number: 1}, joined(int32(1), int64(0), int16(0), 7)},
	"none, 0":       {api.Fragment{}, joined(int32(0), int64(0), int16(0), 7)},
	"none, the end": {api.Fragment{Number: 1<<32 - 1}, joined(uint32(1<<32-1), int64(0), int16(0), 7)},
	"all marks": {
		api.Fragment{Number: 2, Samples: []api.Sample{{Time: -3, Step: 10, Size: 5, Key: true}, {Time: 7, Step: 10, Size: 5}}},
		joined(int32(2), int64(-3), int16(2), 15, int32(10), int32(5)),
	},
	"no marks": {
		api.Fragment{Number: 3, Samples: []api.Sample{{Time: 1, Step: 10, Shift: -1, Size: 5}, {Time: 11, Step: 20, Shift: 2, Size: 6, Key: true}}},
		joined(int32(3), int64(1), int16(2), 0, int32(10), int32(20), int32(-1), int32(2), int32(5), int32(6), 0, 1),
	},
	"just steps": {
		api.Fragment{Samples: []api.Sample{{Step: 10, Shift: 1, Size: 5}, {Time: 10, Step: 10, Size: 6}}},
		joined(int32(0), int64(0), int16(2), 1, int32(10), int32(1), int32(0), int32(5), int32(6), 0, 0),
	},
	"just shifts": {
		api.Fragment{Samples: []api.Sample{{Step: 10, Size: 5, Key: true}, {Time: 10, Size: 6, Key: true}}},
		joined(int32(0), int64(0), int16(2), 2, int32(10), int32(0), int32(5), int32(6), 1, 1),
	},
	"just sizes": {
		api.Fragment{Samples: []api.Sample{{Step: 10, Shift: 1}, {Time: 10, Shift: 1}}},
		joined(int32(0), int64(0), int16(2), 4, int32(10), int32(0), int32(1), int32(1), int32(0), 0, 0),
	},
	"just the key": {
		api.Fragment{Samples: []api.Sample{{Step: 10, Shift: 1, Key: true}, {Time: 10, Shift: 1, Size: 1}}},
		joined(int32(0), int64(0), int16(2), 8, int32(10), int32(0), int32(1), int32(1), int32(0), int32(1)),
	},
	"one key":        {api.Fragment{Samples: []api.Sample{{Key: true}}}, joined(int32(0), int64(0), int16(1), 15, int32(0), int32(0))},
	"one, no key":    {api.Fragment{Samples: []api.Sample{{}}}, joined(int32(0), int64(0), int16(1), 7, int32(0), int32(0), 0)},
	"one with shift": {api.Fragment{Samples: []api.Sample{{Shift: -api.MaxStep}}}, joined(int32(0), int64(0), int16(1), 5, int32(0), int32(-api.MaxStep), int32(0), 0)},
	"greatest": {
		api.Fragment{Samples: []api.Sample{{Time: -api.MaxTime, Step: api.MaxStep, Shift: api.MaxStep, Size: api.MaxSampleSize, Key: true}}},
		joined(int32(0), int64(-api.MaxTime), int16(1), 13, int32(api.MaxStep), int32(api.MaxStep), int32(api.MaxSampleSize)),
	},
	"second is a key too": {
		api.Fragment{Samples: []api.Sample{{Key: true}, {Key: true}}}, joined(int32(0), int64(0), int16(2), 7, int32(0), int32(0), 1, 1),
	},
	"all samples": {
		api.Fragment{Samples: manySamples(api.MaxSamples)}, joined(int32(0), int64(0), int16(api.MaxSamples), 7, int32(1), int32(0), make([]byte, api.MaxSamples)),
	},
}

func TestFragmentBytes(t *testing.T) {
	for what, c := range fragments {
		b, f := box.FragmentBytes(c.f)
		is(t, "FragmentBytes "+what, b, f, c.b)
		x, place, f := box.ReadFragment(c.b)
		is(t, "ReadFragment "+what, x, f, c.f)
		if place != 0 {
			t.Error("ReadFragment", what, place)
		}
	}
	for _, number := range []int{-1, 1 << 32} {
		b, f := box.FragmentBytes(api.Fragment{Number: number, Samples: []api.Sample{{Step: 1}, {Time: 9}}})
		isNot(t, "FragmentBytes", b, f, api.ErrRange) // before the order of the samples
	}
}

func TestReadFragmentSyntax(t *testing.T) {
	for what, c := range fragments {
		if len(c.b) > 1000 {
			continue
		}
		for _, behind := range [][]byte{{0}, {7, 8}, make([]byte, 20)} {
			x, place, f := box.ReadFragment(append(slices.Clone(c.b), behind...))
			isAt(t, "ReadFragment with bytes behind "+what, x, place, f, len(c.b), api.ErrSyntax)
		}
	}
	b := fragments["no marks"].b
	tooShort(t, "ReadFragment", b, []int{0, 4, 12, 14, 15, 19, 23, 27, 31, 35, 39, 40}, box.ReadFragment)
	for what, c := range map[string]struct {
		b     []byte
		place int
	}{
		"marks 16":                   {joined(int32(0), int64(0), int16(0), 16), 14},
		"marks 255, and time":        {joined(int32(0), int64(9), int16(0), 255, 1), 14},
		"first key 2":                {changed(b, 39, 2), 39},
		"second key 255":             {changed(b, 40, 255), 40},
		"two keys":                   {changed(changed(b, 40, 2), 39, 2), 39},
		"key before what is behind":  {append(changed(b, 40, 2), 1), 40},
		"no samples, but a step":     {joined(int32(0), int64(0), int16(0), 7, int32(1)), 15},
		"no samples, and other mark": {joined(int32(0), int64(5), int16(0), 0, 1), 15},
		"65535 samples":              {joined(int32(0), int64(0), uint16(65535), 15, int32(1)), 19},
		"65535 samples, no marks":    {joined(int32(0), int64(0), uint16(65535), 0, int32(1), int16(1)), 19},
	} {
		x, place, f := box.ReadFragment(c.b)
		isAt(t, "ReadFragment "+what, x, place, f, c.place, api.ErrSyntax)
	}
}

func TestReadFragmentForm(t *testing.T) {
	for what, c := range map[string]struct {
		b     []byte
		place int
	}{
		"time without samples":            {joined(int32(0), int64(1), int16(0), 7), 4},
		"time below 0 without samples":    {joined(int32(0), int64(-1), int16(0), 7), 4},
		"time and marks without samples":  {joined(int32(0), int64(1), int16(0), 15), 4},
		"no time, no samples":             {joined(int32(0), int64(1<<62), int16(0), 0), 4},
		"mark 8 without samples":          {joined(int32(0), int64(0), int16(0), 15), 14},
		"no marks without samples":        {joined(int32(0), int64(0), int16(0), 0), 14},
		"mark 1 is missing":               {joined(int32(0), int64(0), int16(2), 14, int32(1), int32(1), int32(0)), 14},
		"mark 2 is missing":               {joined(int32(0), int64(0), int16(2), 13, int32(1), int32(0), int32(0), int32(0)), 14},
		"mark 4 is missing":               {joined(int32(0), int64(0), int16(2), 11, int32(1), int32(5), int32(5)), 14},
		"mark 8 is missing":               {joined(int32(0), int64(0), int16(2), 7, int32(1), int32(0), 1, 0), 14},
		"all are missing":                 {joined(int32(0), int64(0), int16(1), 0, int32(1), int32(0), int32(2), 1), 14},
		"mark, then the time":             {joined(int32(0), int64(1<<62), int16(1), 14, int32(1), int32(2)), 14},
		"mark, then too many":             {joined(int32(0), int64(0), int16(api.MaxSamples+1), 15-8, int32(1), int32(2), 1, make([]byte, api.MaxSamples)), 14},
		"mark of samples without a range": {joined(int32(0), int64(0), int16(2), 14, int32(-1), int32(-1), int32(2)), 14},
	} {
		x, place, f := box.ReadFragment(c.b)
		isAt(t, "ReadFragment "+what, x, place, f, c.place, api.ErrForm)
	}
}

func TestReadFragmentChecks(t *testing.T) {
	for what, c := range map[string]struct {
		b    []byte
		want api.Fault
	}{
		"time":              {joined(int32(0), int64(api.MaxTime+1), int16(1), 15, int32(0), int32(0)), api.ErrRange},
		"time below 0":      {joined(int32(0), int64(-1<<63), int16(1), 15, int32(0), int32(0)), api.ErrRange},
		"greatest number":   {joined(int32(0), int64(1<<63-1), int16(2), 15, int32(5), int32(0)), api.ErrRange},
		"step":              {joined(int32(0), int64(0), int16(1), 15, int32(api.MaxStep+1), int32(0)), api.ErrRange},
		"step, first bit":   {joined(int32(0), int64(0), int16(1), 15, uint32(1<<31), int32(0)), api.ErrRange},
		"step, all bits":    {joined(int32(0), int64(0), int16(1), 15, int32(-1), int32(0)), api.ErrRange},
		"shift":             {joined(int32(0), int64(0), int16(1), 13, int32(0), int32(api.MaxStep+1), int32(0)), api.ErrRange},
		"shift below 0":     {joined(int32(0), int64(0), int16(1), 13, int32(0), int32(-api.MaxStep-1), int32(0)), api.ErrRange},
		"size":              {joined(int32(0), int64(0), int16(1), 15, int32(0), int32(api.MaxSampleSize+1)), api.ErrRange},
		"size, all bits":    {joined(int32(0), int64(0), int16(1), 15, int32(0), int32(-1)), api.ErrRange},
		"too many":          {joined(int32(0), int64(0), int16(api.MaxSamples+1), 15, int32(1), int32(0)), api.ErrLarge},
		"too many, and all": {joined(int32(0), int64(1<<62), uint16(65535), 15, int32(-1), int32(-1)), api.ErrLarge},
		"end":               {joined(int32(0), int64(api.MaxTime-5), int16(2), 15, int32(3), int32(0)), api.ErrRange},
	} {
		x, place, f := box.ReadFragment(c.b)
		isAt(t, "ReadFragment "+what, x, place, f, 0, c.want)
	}
}

func TestFragments(t *testing.T) {
	l := samplesOf(1, 2, 3, 4, 5)
	for n, want := range map[int][]int{1: {1, 1, 1, 1, 1}, 2: {2, 2, 1}, 3: {3, 2}, 4: {4, 1}, 5: {5}, 6: {5}, api.MaxSamples: {5}} {
		parts, f := box.Fragments(l, n)
		var many []int
		var all []api.Sample
		for i, part := range parts {
			if part.Number != i+1 {
				t.Error("Fragments", n, "Number", part.Number)
			}
			many = append(many, len(part.Samples))
			all = append(all, part.Samples...)
		}
		is(t, fmt.Sprint("Fragments ", n), many, f, want)
		is(t, fmt.Sprint("Fragments ", n), all, f, l)
		again, f := box.Joined(parts)
		is(t, fmt.Sprint("Joined of Fragments ", n), again, f, l)
	}
	parts, f := box.Fragments(nil, 1)
	is(t, "Fragments of none", parts, f, nil)
	for _, n := range []int{0, -1, api.MaxSamples + 1} {
		parts, f := box.Fragments(l, n)
		isNot(t, fmt.Sprint("Fragments ", n), parts, f, api.ErrRange)
	}
	parts, f = box.Fragments(manySamples(api.MaxSamples), 1)
	if f != api.OK || len(parts) != api.MaxSamples {
		t.Error("Fragments of all", len(parts), f)
	}
	again, f := box.Joined(parts)
	is(t, "Joined of all", again, f, manySamples(api.MaxSamples))
}

func TestJoined(t *testing.T) {
	one := func(number, time int) api.Fragment {
		return api.Fragment{Number: number, Samples: []api.Sample{{Time: time, Step: 1}}}
	}
	l, f := box.Joined(nil)
	is(t, "Joined of nothing", l, f, nil)
	l, f = box.Joined([]api.Fragment{one(7, 5), {Number: 8}, one(9, 6)})
	is(t, "Joined", l, f, []api.Sample{{Time: 5, Step: 1}, {Time: 6, Step: 1}})
	l, f = box.Joined([]api.Fragment{{Number: 1<<32 - 2}, one(1<<32-1, 6)})
	is(t, "Joined", l, f, []api.Sample{{Time: 6, Step: 1}})
	empty := make([]api.Fragment, api.MaxSamples+1)
	for i := range empty {
		empty[i].Number = i
	}
	l, f = box.Joined(empty[1:])
	is(t, "Joined of many without samples", l, f, nil)
	half, all := manySamples(api.MaxSamples/2), manySamples(api.MaxSamples)
	for what, c := range map[string]struct {
		l    []api.Fragment
		want api.Fault
	}{
		"too many fragments":       {empty, api.ErrLarge},
		"number -1":                {[]api.Fragment{{Number: -1}}, api.ErrRange},
		"number too great":         {[]api.Fragment{{Number: 1<<32 - 1}, {Number: 1 << 32}}, api.ErrRange},
		"number again":             {[]api.Fragment{one(1, 0), one(1, 1)}, api.ErrOrder},
		"number before":            {[]api.Fragment{one(1, 0), one(0, 1)}, api.ErrOrder},
		"number left out":          {[]api.Fragment{one(1, 0), one(3, 1)}, api.ErrOrder},
		"samples of one":           {[]api.Fragment{one(1, 0), {Number: 2, Samples: []api.Sample{{Time: 1, Step: -1}}}}, api.ErrRange},
		"order of one":             {[]api.Fragment{{Number: 2, Samples: []api.Sample{{Time: 1}, {Time: 2}}}}, api.ErrOrder},
		"gap":                      {[]api.Fragment{one(1, 0), one(2, 2)}, api.ErrOrder},
		"gap over one without any": {[]api.Fragment{one(1, 0), {Number: 2}, one(3, 0)}, api.ErrOrder},
		"too many together":        {[]api.Fragment{{Number: 1, Samples: half}, {Number: 2, Samples: half}, one(3, api.MaxSamples)}, api.ErrLarge},
		// the first of several faults
		"too many, then number":       {slices.Concat([]api.Fragment{{Number: -1}}, empty), api.ErrLarge},
		"samples, then number":        {[]api.Fragment{one(1, 0), {Number: 5, Samples: []api.Sample{{Time: 1, Step: -1}}}}, api.ErrRange},
		"number, then samples":        {[]api.Fragment{one(1, 0), one(3, 1), {Number: 4, Samples: []api.Sample{{Step: -1}}}}, api.ErrOrder},
		"samples, then all together":  {[]api.Fragment{one(1, 0), one(2, 5), {Number: 3, Samples: []api.Sample{{Step: -1}}}}, api.ErrRange},
		"number, then too many":       {[]api.Fragment{{Number: 1, Samples: all}, {Number: 2, Samples: all}, {Number: 2}}, api.ErrOrder},
		"too many, then the order":    {[]api.Fragment{{Number: 1, Samples: all}, {Number: 2, Samples: all}}, api.ErrLarge},
		"too many, also if much more": {[]api.Fragment{{Number: 1, Samples: all}, {Number: 2, Samples: all}, {Number: 3, Samples: all}}, api.ErrLarge},
	} {
		l, f := box.Joined(c.l)
		isNot(t, "Joined "+what, l, f, c.want)
	}
}

// What was written is read again; and what can be read, also if it was damaged, is written again.
func TestReadFragmentOfFragmentBytes(t *testing.T) {
	r := rand.New(rand.NewSource(1))
	read := 0
	for range 5000 {
		x := api.Fragment{Number: r.Intn(1 << 32), Samples: anySamples(r, r.Intn(5))}
		b, f := box.FragmentBytes(x)
		if f != api.OK {
			t.Fatal("FragmentBytes", x, f)
		}
		again, place, f := box.ReadFragment(b)
		is(t, "ReadFragment of FragmentBytes", again, f, x)
		if place != 0 {
			t.Error("ReadFragment", place)
		}
		for range 10 {
			b := changed(b, r.Intn(len(b)), byte(oneOf(r, 0, 1, 2, 3, 5, 7, 15, 255)))
			x, place, f := box.ReadFragment(b)
			if f != api.OK {
				isNot(t, "ReadFragment", x, f, f)
				if place < 0 || place > len(b) {
					t.Error("ReadFragment", place)
				}
				continue
			}
			read++
			again, f := box.FragmentBytes(x)
			is(t, "FragmentBytes of ReadFragment", again, f, b)
		}
	}
	if read < 1000 {
		t.Error("few were read", read)
	}
}

func TestFragmentsAreNewMemory(t *testing.T) {
	l := roomy(samplesOf(1, 2, 3, 4))
	untouched(t, "Fragments", l, func() {
		parts, _ := box.Fragments(l, 2)
		apart(t, "Fragments", parts, l)
	})
	parts := roomy([]api.Fragment{{Number: 1, Samples: roomy(samplesOf(1, 2))}, {Number: 2, Samples: roomy([]api.Sample{{Time: 3}})}})
	untouched(t, "Joined, FragmentBytes", parts, func() {
		l, f := box.Joined(parts)
		if f != api.OK || len(l) != 3 {
			t.Error("Joined", l, f)
		}
		apart(t, "Joined", l, parts)
		l, _ = box.Joined(parts[:1])
		apart(t, "Joined of one", l, parts)
		b, _ := box.FragmentBytes(parts[0])
		apart(t, "FragmentBytes", b, parts)
	})
	b := roomy(fragments["no marks"].b)
	untouched(t, "ReadFragment", b, func() {
		x, _, _ := box.ReadFragment(b)
		apart(t, "ReadFragment", x, b)
	})
}
