package cut_test

import (
	"fmt"
	"math/big"
	"math/rand"
	"slices"
	"testing"

	"headend/api"
	"headend/cut"
)

// film is the pictures of the examples: groups at 0, 7 and 13 seconds.
func film() api.Strand { return pictures("p", 1, line(20, 0, 1, 0, 7, 13)) }

// tones are sound of the same 20 seconds, 8 ticks of 10 per second each.
func tones() api.Strand { return sound("s", 10, line(25, 0, 8)) }

func TestSegments(t *testing.T) {
	double := pictures("q", 90000, line(20, 0, 90000, 0, 7, 13))
	for what, c := range map[string]struct {
		r      api.Strand
		scale  int
		bounds []int
		first  int
		want   []api.Segment
	}{
		"three": {film(), 1, []int{0, 7, 13}, 5, []api.Segment{
			{Number: 5, From: 0, To: 7, Begin: 0, Length: 7, Bytes: 127},
			{Number: 6, From: 7, To: 13, Begin: 7, Length: 6, Bytes: 8191 - 127},
			{Number: 7, From: 13, To: 20, Begin: 13, Length: 7, Bytes: 65535 - 8191 + 15},
		}},
		"one": {film(), 1, []int{0}, 0, []api.Segment{{To: 20, Length: 20, Bytes: 65535 + 15}}},
		"not all that there are": {film(), 1, []int{0, 13}, 1, []api.Segment{
			{Number: 1, To: 13, Length: 13, Bytes: 8191}, {Number: 2, From: 13, To: 20, Begin: 13, Length: 7, Bytes: 65535 - 8191 + 15},
		}},
		"another scale": {double, 2, []int{0, 14}, 0, []api.Segment{
			{To: 7, Length: 630000, Bytes: 127}, {Number: 1, From: 7, To: 20, Begin: 630000, Length: 1170000, Bytes: 65550 - 127},
		}},
		"another scale of sound": {tones(), 1, []int{0, 7, 13}, 5, []api.Segment{
			{Number: 5, From: 0, To: 8, Begin: 0, Length: 70, Bytes: 255},
			{Number: 6, From: 8, To: 16, Begin: 64, Length: 60, Bytes: 65535 - 255, Lead: 6},
			{Number: 7, From: 16, To: 25, Begin: 128, Length: 70, Bytes: 511, Lead: 2},
		}},
		"sound at just a sample": {tones(), 10, []int{0, 64}, 0, []api.Segment{
			{To: 8, Length: 64, Bytes: 255}, {Number: 1, From: 8, To: 25, Begin: 64, Length: 136, Bytes: 65535 - 255 + 511},
		}},
		"sound just before a sample": {tones(), 10, []int{0, 63}, 0, []api.Segment{
			{To: 7, Length: 63, Bytes: 127}, {Number: 1, From: 7, To: 25, Begin: 56, Length: 137, Bytes: 65535 - 127 + 511, Lead: 7},
		}},
		// 1/3 second is 3.3 ticks, and 2/3 are 6.7: rounded Down
		"sound with rounding": {sound("s", 10, line(4, 0, 3)), 3, []int{0, 1, 2}, 0, []api.Segment{
			{To: 1, Length: 3, Bytes: 1}, {Number: 1, From: 1, To: 2, Begin: 3, Length: 3, Bytes: 2}, {Number: 2, From: 2, To: 4, Begin: 6, Length: 6, Bytes: 12},
		}},
		"sound that begins later": {sound("s", 10, line(3, 4, 8)), 10, []int{0, 15}, 0, []api.Segment{
			{To: 1, Begin: 4, Length: 15, Bytes: 1}, {Number: 1, From: 1, To: 3, Begin: 12, Length: 13, Bytes: 6, Lead: 3},
		}},
		"sound that begins before": {sound("s", 10, line(3, -3, 8)), 10, []int{0}, 0, []api.Segment{{To: 3, Begin: -3, Length: 21, Bytes: 7, Lead: 3}}},
		// the moment -1/3 is tick -3.3, rounded Down -4; tick -3 is presented after it
		"sound below 0": {sound("s", 10, line(3, -4, 1)), 3, []int{-1}, 0, []api.Segment{{To: 3, Begin: -4, Length: 3, Bytes: 7}}},
		"sound of which the last one in the order of decoding is presented before others": {
			sound("s", 1, timed(0, 2, 0, 2, 4, 2, 0, 2, 2)), 1, []int{0, 5}, 0, // presented at 0, 6, 4 and 8
			[]api.Segment{{To: 2, Length: 5, Bytes: 3}, {Number: 1, From: 2, To: 4, Begin: 4, Length: 5, Bytes: 12, Lead: 1}},
		},
		"sound with several samples at a time": {sound("s", 1, timed(0, 0, 0, 0, 0, 5, 0)), 1, []int{-1, 0}, 0, []api.Segment{
			{To: 2, Length: 1, Bytes: 3}, {Number: 1, From: 2, To: 3, Length: 5, Bytes: 4},
		}},
		"sound that ends when the last segment begins": {sound("s", 1, line(3, 0, 1)), 1, []int{0, 3}, 0, []api.Segment{
			{To: 2, Length: 3, Bytes: 3}, {Number: 1, From: 2, To: 3, Begin: 2, Length: 0, Bytes: 4, Lead: 1},
		}},
		"no other order than that of decoding": {
			pictures("p", 1, keyed(timed(-10, 10, 10, 10, 30, 10, 0, 10, 0, 10, 10), 0, 4)), 1, []int{0, 40}, 0,
			[]api.Segment{{To: 4, Length: 40, Bytes: 15}, {Number: 1, From: 4, To: 5, Begin: 40, Length: 10, Bytes: 16}},
		},
		"an end of another sample than the last one": {
			pictures("p", 1, keyed(timed(0, 1, 0, 1, 9, 1, 0), 0)), 1, []int{0}, 0, []api.Segment{{To: 3, Length: 11, Bytes: 7}},
		},
		"the greatest number": {film(), 1, []int{0}, api.MaxTime - api.MaxCuts, []api.Segment{{Number: api.MaxTime - api.MaxCuts, To: 20, Length: 20, Bytes: 65550}}},
		"the greatest times": {
			pictures("p", 1, keyed(timed(api.MaxTime, 0, 0), 0)), 1, []int{api.MaxTime}, 0, []api.Segment{{To: 1, Begin: api.MaxTime, Bytes: 1}},
		},
		// the greatest time and a half, rounded Down
		"the greatest boundary": {
			sound("s", 3, timed(api.MaxTime, 0, 1)), 2, []int{666666666666667}, 0, []api.Segment{{To: 1, Begin: api.MaxTime + 1, Length: 1, Bytes: 1}},
		},
		"the least and the greatest times of sound": {
			sound("s", 1, timed(api.MaxTime-api.MaxStep, api.MaxStep, api.MaxStep, 0, api.MaxStep)), 1, []int{-api.MaxTime}, 0,
			[]api.Segment{{To: 2, Begin: api.MaxTime, Length: 2*api.MaxTime + api.MaxStep, Bytes: 3}},
		},
		"the greatest Lead": {
			sound("s", 1, timed(-api.MaxTime, 0, -api.MaxStep, api.MaxStep, api.MaxStep)), 1, []int{api.MaxStep - api.MaxTime - 1}, 0,
			[]api.Segment{{To: 2, Begin: -api.MaxTime - api.MaxStep, Length: api.MaxStep + 1, Bytes: 3, Lead: 2*api.MaxStep - 1}},
		},
	} {
		got, f := cut.Segments(c.r, c.scale, c.bounds, c.first)
		is(t, "Segments "+what, got, f, c.want)
	}
}

func TestSegmentsFaults(t *testing.T) {
	fine := sound("s", api.MaxScale, line(2, 0, 1)) // a tick of scale 1 is too many of its ticks from MaxTime / MaxScale on
	const most = api.MaxTime / api.MaxScale
	for what, c := range map[string]struct {
		r      api.Strand
		scale  int
		bounds []int
		first  int
		want   api.Fault
	}{
		"scale 0":                          {film(), 0, nil, -1, api.ErrRange},
		"scale":                            {film(), api.MaxScale + 1, []int{0}, 0, api.ErrRange},
		"no bounds":                        {film(), 1, nil, -1, api.ErrNone},
		"too many":                         {film(), 1, make([]int, api.MaxCuts+1), -1, api.ErrLarge},
		"no time":                          {film(), 1, []int{api.MaxTime + 1}, -1, api.ErrRange},
		"no time below 0":                  {film(), 1, []int{0, -api.MaxTime - 1}, -1, api.ErrRange},
		"no order":                         {film(), 1, []int{0, 7, 7, api.MaxTime + 1}, -1, api.ErrOrder},
		"decreasing":                       {film(), 1, []int{7, 0}, -1, api.ErrOrder},
		"first below 0":                    {film(), 1, []int{1}, -1, api.ErrRange},
		"first":                            {film(), 1, []int{1}, api.MaxTime - api.MaxCuts + 1, api.ErrRange},
		"beyond the ticks of sound":        {fine, 1, []int{most + 1}, 0, api.ErrRange},
		"before the ticks of sound":        {fine, 1, []int{-most - 1}, 0, api.ErrRange},
		"beyond the ticks of pictures":     {pictures("p", api.MaxScale, fine.Samples), 1, []int{most + 1}, 0, api.ErrRange},
		"rounded below the least time":     {sound("s", 3, line(2, 0, 1)), 2, []int{-666666666666667}, 0, api.ErrRange},
		"no group":                         {film(), 1, []int{0, 8}, 0, api.ErrNone},
		"no group at the first one":        {film(), 1, []int{1, 7}, 0, api.ErrNone},
		"no group, and beyond":             {pictures("p", api.MaxScale, fine.Samples), 1, []int{1, most + 1}, 0, api.ErrNone},
		"not exactly":                      {film(), 3, []int{0, 22}, 0, api.ErrNone},
		"a group that is not closed":       {pictures("p", 1, keyed(timed(0, 1, 3, 1, 0, 1, 2), 0, 2)), 1, []int{3, 4}, 0, api.ErrNone},
		"after a group that is not closed": {pictures("p", 1, keyed(timed(0, 1, 3, 1, 0, 1, 2), 0, 2)), 1, []int{4}, 0, api.ErrForm},
		"one sample":                       {tones(), 10, []int{0, 64, 71}, 0, api.ErrZero},
		"one sample, and then no time":     {fine, 1, []int{-2, -1, most + 1}, 0, api.ErrZero},
		"one sample up to what is no time": {fine, 1, []int{1, most + 1}, 0, api.ErrZero}, // boundary by boundary
		"the last one up to what is none":  {fine, 1, []int{0, 1, most + 1}, 0, api.ErrZero},
		"samples up to what is no time":    {fine, 1, []int{0, most + 1}, 0, api.ErrRange},
		"no time, and then one sample":     {fine, 1, []int{most + 1, most + 2}, 0, api.ErrRange},
		"no time below 0, and one sample":  {fine, 1, []int{-most - 1, -most}, 0, api.ErrRange},
		"one sample before the first one":  {tones(), 10, []int{-2, -1}, 0, api.ErrZero},
		"one sample at the end":            {tones(), 10, []int{0, 192, 500}, 0, api.ErrZero},
		"one sample at first, and no end":  {tones(), 10, []int{64, 65, 500}, 0, api.ErrZero},
		"not the first group":              {film(), 1, []int{7, 13}, 0, api.ErrForm},
		"not the first sample":             {tones(), 10, []int{64, 500}, 0, api.ErrForm}, // before the length
		"begins after the end":             {tones(), 10, []int{0, 201}, 0, api.ErrRange},
		"one that begins after the end":    {sound("s", 1, line(1, 0, 5)), 1, []int{6}, 0, api.ErrRange},
	} {
		got, f := cut.Segments(c.r, c.scale, c.bounds, c.first)
		isNot(t, "Segments "+what, got, f, c.want)
	}
}

// startOf returns with which sample a segment begins, as the definition says, or -1.
func startOf(r api.Strand, scale, bound int) int {
	start, at := -1, presents(r.Samples)
	moment := func(ticks, scale int) *big.Rat { return big.NewRat(int64(ticks), int64(scale)) }
	if !r.Sound {
		for _, i := range closed(r.Samples) {
			if moment(at[i], r.Scale).Cmp(moment(bound, scale)) == 0 {
				start = i
			}
		}
		return start
	}
	for i := range at {
		if moment(at[i], r.Scale).Cmp(moment(bound, scale)) <= 0 {
			start = i
		}
	}
	return max(start, 0)
}

// segmentsOf cuts as the definitions say: sample numbers first, and then boundary by boundary.
func segmentsOf(r api.Strand, scale int, bounds []int, first int) ([]api.Segment, api.Fault) {
	at, until := presents(r.Samples), ends(r.Samples)
	own := func(bound int) int { // of small scales
		n := bound * r.Scale
		return (n - (n%scale+scale)%scale) / scale
	}
	var out []api.Segment
	for k, bound := range bounds {
		s := api.Segment{Number: first + k, From: startOf(r, scale, bound), To: len(at)}
		if k+1 < len(bounds) {
			s.To, s.Length = startOf(r, scale, bounds[k+1]), own(bounds[k+1])-own(bound)
		}
		switch {
		case own(bound) < -api.MaxTime || own(bound) > api.MaxTime:
			return nil, api.ErrRange
		case s.From < 0:
			return nil, api.ErrNone
		case s.From == s.To:
			return nil, api.ErrZero
		}
		if s.Begin = at[s.From]; r.Sound {
			s.Lead = max(0, own(bound)-s.Begin)
		}
		s.Bytes = bytesOf(r.Samples[s.From:max(s.To, s.From)]) // To can be -1: the next one is told
		out = append(out, s)
	}
	if out[0].From > 0 {
		return nil, api.ErrForm
	}
	last := &out[len(out)-1]
	last.Length = slices.Max(until[last.From:]) - own(bounds[len(bounds)-1])
	if last.Length < 0 {
		return nil, api.ErrRange
	}
	return out, api.OK
}

func TestManySegments(t *testing.T) {
	r := rand.New(rand.NewSource(5))
	faults, late := map[api.Fault]int{}, map[api.Fault]int{}
	for range 12000 {
		s := api.Strand{Name: "a", Scale: 1 + r.Intn(3), Sound: r.Intn(2) == 0, Samples: draw(r, 12)}
		scale, seen := 1+r.Intn(3), faults
		if r.Intn(2) == 0 { // some boundaries are no times in ticks of the rendition
			s.Scale, seen = scale+1, late
			last := s.Samples[len(s.Samples)-1]
			by := api.MaxTime - last.Time - last.Step
			for i := range s.Samples {
				s.Samples[i].Time += by
			}
		}
		bounds := drawBounds(r, s, scale)
		if len(bounds) == 0 {
			continue
		}
		want, fault := segmentsOf(s, scale, bounds, 9)
		seen[fault]++
		got, f := cut.Segments(s, scale, bounds, 9)
		isEither(t, fmt.Sprint("Segments ", s, scale, bounds), got, f, want, fault)
	}
	for _, fault := range []api.Fault{api.OK, api.ErrNone, api.ErrZero, api.ErrForm, api.ErrRange} {
		if faults[fault] < 20 || late[fault] < 20 {
			t.Error("too few with fault", fault, faults, late)
		}
	}
}

// drawBounds returns increasing boundaries, most of them at which samples of a rendition are presented.
func drawBounds(r *rand.Rand, s api.Strand, scale int) []int {
	var bounds []int
	for _, at := range presents(s.Samples) {
		if r.Intn(3) > 0 {
			bounds = append(bounds, at*scale/s.Scale+r.Intn(2)*r.Intn(2))
		}
	}
	slices.Sort(bounds)
	bounds = slices.Compact(bounds)
	if r.Intn(2) == 0 {
		bounds = bounds[:(len(bounds)+2)/3]
	}
	return bounds
}

// What the chapter says of boundaries out of Common; and what is to be true of the whole.
func TestCommonSegments(t *testing.T) {
	r := rand.New(rand.NewSource(6))
	cuts := 0
	for range 2000 {
		var l []api.Strand
		for i := range 1 + r.Intn(3) {
			scale := 1 + r.Intn(3)
			samples := line(30, -10*scale, scale, 0, 3, 4, 8, 9, 10, 17, 20, 29)
			for k := range samples {
				samples[k].Key = k == 0 || samples[k].Key && r.Intn(3) > 0
			}
			l = append(l, pictures(string(rune('a'+i)), scale, samples))
		}
		tone := 1 + r.Intn(50)
		l = append(l, sound("s", 10+r.Intn(90), line(1000/tone, -600, tone)))
		places, f := cut.Common(l)
		if f != api.OK || len(places) == 0 {
			t.Fatal("Common", places, f)
		}
		all, f := cut.All(l, places, 3)
		if f != api.OK {
			if f != api.ErrZero && f != api.ErrRange && f != api.ErrForm { // of sound
				t.Error("All", f)
			}
			all, f = cut.All(l[:len(l)-1], places, 3)
			if f != api.OK {
				t.Error("All without sound", f)
			}
		}
		cuts += len(places)
		for i, segments := range all {
			isWholeRendition(t, l[i], segments)
			if len(segments) != len(places) || segments[0].Number != 3 {
				t.Error("All", segments)
			}
		}
		i, k, f := cut.Fits(l[:len(all)], all)
		is(t, fmt.Sprint("Fits of All ", l, places), pair{i, k}, f, pair{})
	}
	if cuts < 5000 {
		t.Error("too few cuts", cuts)
	}
}

// isWholeRendition expects that segments have all samples of a rendition, each once, in order.
func isWholeRendition(t *testing.T, r api.Strand, l []api.Segment) {
	t.Helper()
	next, bytes, length := 0, 0, 0
	for k, s := range l {
		if s.From != next || s.To <= s.From || k > 0 && s.Number != l[k-1].Number+1 {
			t.Error("segments", l)
		}
		next, bytes, length = s.To, bytes+s.Bytes, length+s.Length
	}
	if next != len(r.Samples) || bytes != bytesOf(r.Samples) {
		t.Error("segments", l)
	}
	if !r.Sound && length != slices.Max(ends(r.Samples))-l[0].Begin {
		t.Error("segments", l)
	}
}

func TestAll(t *testing.T) {
	l := []api.Strand{film(), tones()}
	all, f := cut.All(l, []int{0, 7, 13}, 5)
	if f != api.OK || len(all) != 2 {
		t.Fatal("All", all, f)
	}
	for i, r := range l {
		want, f := cut.Segments(r, 1, []int{0, 7, 13}, 5)
		is(t, "All", all[i], f, want)
	}
	// the boundaries are in ticks of the first one
	double := pictures("q", 2, line(20, 0, 2, 0, 7, 13))
	all, f = cut.All([]api.Strand{double, film()}, []int{0, 14}, 0)
	if f != api.OK || all[1][1].Begin != 7 {
		t.Error("All", all, f)
	}
	all, f = cut.All([]api.Strand{film()}, []int{0}, 0)
	is(t, "All of one", all, f, [][]api.Segment{{{To: 20, Length: 20, Bytes: 65550}}})
}

func TestAllFaults(t *testing.T) {
	const most = api.MaxTime / api.MaxScale
	film := film()
	late := pictures("q", 1, line(13, 7, 1, 0, 6))
	for what, c := range map[string]struct {
		l      []api.Strand
		bounds []int
		first  int
		want   api.Fault
	}{
		"no bounds":              {[]api.Strand{film}, nil, 0, api.ErrNone},
		"no order":               {[]api.Strand{film}, []int{0, 0}, 0, api.ErrOrder},
		"first":                  {[]api.Strand{film}, []int{0}, -1, api.ErrRange},
		"the first rendition":    {[]api.Strand{film, late}, []int{1}, 0, api.ErrNone},
		"the second rendition":   {[]api.Strand{film, late}, []int{0, 7}, 0, api.ErrNone},
		"rendition by rendition": {[]api.Strand{film, late}, []int{7, 13}, 0, api.ErrForm}, // late would begin with it
		"sound":                  {[]api.Strand{film, sound("s", 1, line(1, 0, 20))}, []int{0, 7}, 0, api.ErrZero},
		"sound up to no time": {
			[]api.Strand{pictures("p", 1, line(2, most, 1, 0, 1)), sound("s", api.MaxScale, line(2, 0, 1))}, []int{most, most + 1}, 0, api.ErrZero,
		},
		"sound that ends before": {[]api.Strand{film, sound("s", 1, line(6, 0, 1))}, []int{0, 7}, 0, api.ErrRange},
	} {
		got, f := cut.All(c.l, c.bounds, c.first)
		isNot(t, "All "+what, got, f, c.want)
	}
}

// As many boundaries as there can be.
func TestMostSegments(t *testing.T) {
	l := line(api.MaxSamples, 0, 1)
	for i := range l {
		l[i].Key = i%5 == 0
	}
	all, f := cut.All([]api.Strand{pictures("p", 1, l), sound("s", 10, line(api.MaxSamples, 0, 10))}, every(api.MaxCuts, 0, 5), api.MaxTime-api.MaxCuts)
	if f != api.OK || len(all) != 2 {
		t.Fatal("All", f)
	}
	for _, segments := range all {
		if len(segments) != api.MaxCuts || segments[api.MaxCuts-1].From != 4995 || segments[api.MaxCuts-1].Number != api.MaxTime-1 {
			t.Error("All", len(segments), segments[len(segments)-1])
		}
	}
}
