package box_test

import (
	"fmt"
	"math"
	"math/rand"
	"slices"
	"strings"
	"testing"

	"headend/api"
	"headend/box"
)

// tracks returns so many tracks without samples.
func tracks(many int) []api.Track {
	var l []api.Track
	for i := range many {
		l = append(l, api.Track{Name: "a" + strings.Repeat("b", i), Scale: 1})
	}
	return l
}

// edits returns edits of pairs of Length and Media.
func edits(numbers ...int) (l []api.Edit) {
	pairs(numbers, func(a, b int) { l = append(l, api.Edit{Length: a, Media: b}) })
	return l
}

// edited returns a film with a track that has edits.
func edited(scale, trackScale int, l []api.Edit) api.Film {
	return api.Film{Scale: scale, Tracks: []api.Track{{Name: "v", Scale: trackScale, Edits: l}}}
}

// ending returns a film with a track without edits whose last sample ends at a time.
func ending(scale, trackScale, end int) api.Film {
	return api.Film{Scale: scale, Tracks: []api.Track{{Name: "v", Scale: trackScale, Samples: []api.Sample{{Time: end - 2, Step: 1}, {Time: end - 1, Step: 1}}}}}
}

// named returns a film with a track that has a name.
func named(name string) api.Film {
	return api.Film{Scale: 1, Tracks: []api.Track{{Name: name, Scale: 1}}}
}

func TestCheckFilm(t *testing.T) {
	for what, film := range map[string]api.Film{
		"no tracks":        {Scale: 1},
		"greatest scales":  edited(api.MaxScale, api.MaxScale, nil),
		"all tracks":       {Scale: 1, Tracks: tracks(api.MaxTracks)},
		"all edits":        edited(1, 1, slices.Repeat(edits(api.MaxTime/api.MaxEdits, api.MaxTime), api.MaxEdits)),
		"one long edit":    edited(1, 1, edits(api.MaxTime, -1)),
		"short edits":      edited(1, 1, edits(1, 0, 1, -1)),
		"name of a letter": named("z"),
		"long name":        named("a" + strings.Repeat("-09z", 9) + "abc"),
		"all samples":      {Scale: 1, Tracks: []api.Track{{Name: "a", Scale: 1, Samples: manySamples(api.MaxSamples)}}},
	} {
		if f := box.CheckFilm(film); f != api.OK {
			t.Error("CheckFilm", what, f)
		}
	}
}

// badFilms are films, and the faults that they have.
var badFilms = map[string]struct {
	film api.Film
	want api.Fault
}{
	"scale 0":            {api.Film{}, api.ErrRange},
	"scale -1":           {edited(-1, 1, nil), api.ErrRange},
	"scale too great":    {edited(api.MaxScale+1, 1, nil), api.ErrRange},
	"too many tracks":    {api.Film{Scale: 1, Tracks: tracks(api.MaxTracks + 1)}, api.ErrLarge},
	"no name":            {named(""), api.ErrName},
	"long name":          {named(strings.Repeat("a", api.MaxName+1)), api.ErrName},
	"name from a digit":  {named("1a"), api.ErrName},
	"name from -":        {named("-a"), api.ErrName},
	"name with _":        {named("a_"), api.ErrName},
	"great letter":       {named("aB"), api.ErrName},
	"behind z":           {named("a{"), api.ErrName},
	"behind 9":           {named("a:"), api.ErrName},
	"before 0":           {named("a/"), api.ErrName},
	"before a":           {named("`"), api.ErrName},
	"other letter":       {named("é"), api.ErrName},
	"name again":         {api.Film{Scale: 1, Tracks: append(tracks(2), tracks(1)...)}, api.ErrTwice},
	"track scale 0":      {edited(1, 0, nil), api.ErrRange},
	"track scale great":  {edited(1, api.MaxScale+1, nil), api.ErrRange},
	"samples":            {ending(1, 1, -api.MaxTime), api.ErrRange},
	"too many edits":     {edited(1, 1, slices.Repeat(edits(1, 0), api.MaxEdits+1)), api.ErrLarge},
	"length 0":           {edited(1, 1, edits(0, 0)), api.ErrRange},
	"length too great":   {edited(1, 1, edits(api.MaxTime+1, 0)), api.ErrRange},
	"media -2":           {edited(1, 1, edits(1, -2)), api.ErrRange},
	"media too great":    {edited(1, 1, edits(1, 0, 1, api.MaxTime+1)), api.ErrRange},
	"lengths too great":  {edited(1, 1, edits(api.MaxTime, 0, 1, 0)), api.ErrRange},
	"lengths of pauses":  {edited(1, 1, edits(api.MaxTime-5, -1, 6, -1)), api.ErrRange},
	"lengths of a track": {api.Film{Scale: 1, Tracks: append(tracks(1), api.Track{Name: "b", Scale: 1, Edits: edits(api.MaxTime, 0, 1, 0)})}, api.ErrRange},
	// the first of several faults
	"scale, then tracks":    {api.Film{Tracks: tracks(api.MaxTracks + 1)}, api.ErrRange},
	"tracks, then name":     {api.Film{Scale: 1, Tracks: make([]api.Track, api.MaxTracks+1)}, api.ErrLarge},
	"name, then scale":      {api.Film{Scale: 1, Tracks: []api.Track{{}}}, api.ErrName},
	"name, then again":      {api.Film{Scale: 1, Tracks: []api.Track{{}, {}}}, api.ErrName},
	"again, then scale":     {api.Film{Scale: 1, Tracks: append(tracks(1), api.Track{Name: "a"})}, api.ErrTwice},
	"track scale, then all": {api.Film{Scale: 1, Tracks: []api.Track{{Name: "a", Samples: manySamples(api.MaxSamples + 1)}}}, api.ErrRange},
	"samples, then edits":   {api.Film{Scale: 1, Tracks: []api.Track{{Name: "a", Scale: 1, Samples: manySamples(api.MaxSamples + 1), Edits: edits(0, 0)}}}, api.ErrLarge},
	"many edits, then one":  {edited(1, 1, slices.Repeat(edits(0, 0), api.MaxEdits+1)), api.ErrLarge},
	"edits, then next name": {api.Film{Scale: 1, Tracks: []api.Track{{Name: "a", Scale: 1, Edits: edits(0, 0)}, {}}}, api.ErrRange},
	"first name, then next": {api.Film{Scale: 1, Tracks: []api.Track{{}, {Name: "a"}}}, api.ErrName},
}

func TestFilmFaults(t *testing.T) {
	for what, c := range badFilms {
		if f := box.CheckFilm(c.film); f != c.want {
			t.Error("CheckFilm", what, f, c.want)
		}
		trackFaults(t, what, c.film, -1, c.want) // the film comes before the track, and before what is asked
		b, f := box.WriteFilm(c.film, [][]byte{nil, nil, nil}, 0)
		isNot(t, "WriteFilm "+what, b, f, c.want)
	}
	for what, film := range map[string]api.Film{"none": {Scale: 1}, "two": {Scale: 1, Tracks: tracks(2)}} {
		for _, track := range []int{-1, math.MinInt, len(film.Tracks), math.MaxInt} {
			trackFaults(t, what, film, track, api.ErrRange)
		}
	}
}

// trackFaults expects a fault of all functions with a track.
func trackFaults(t *testing.T, what string, film api.Film, track int, want api.Fault) {
	t.Helper()
	n, f := box.Lasts(film, track)
	isNot(t, "Lasts "+what, n, f, want)
	n, f = box.MediaAt(film, track, -1)
	isNot(t, "MediaAt "+what, n, f, want)
	l, f := box.FilmAt(film, track, -1)
	isNot(t, "FilmAt "+what, l, f, want)
	l, f = box.Shown(film, track)
	isNot(t, "Shown "+what, l, f, want)
}

func TestLasts(t *testing.T) {
	for what, c := range map[string]struct {
		film api.Film
		want int
	}{
		"nothing":       {edited(7, 9, nil), 0},
		"edits":         {edited(7, 9, edits(5, -1, 3, 100, 2, 0)), 10},
		"greatest":      {edited(1, 1, edits(api.MaxTime-1, -1, 1, 0)), api.MaxTime},
		"exactly":       {ending(1000, 90000, 180), 2},
		"up":            {ending(1000, 90000, 181), 3},
		"up from 1":     {ending(1, 90000, 1), 1},
		"to more ticks": {ending(90000, 1000, 3), 270},
		"end 0":         {ending(1000, 90000, 0), 0},
		"below 0":       {ending(1, 1, -5), 0},
		"far below 0":   {ending(api.MaxScale, 1, -api.MaxTime+2), 0},
		"the last time": {ending(1, 1, api.MaxTime), api.MaxTime},
		"up to it":      {ending(3, 2, 666666666666666), 999999999999999},
	} {
		n, f := box.Lasts(c.film, 0)
		is(t, "Lasts "+what, n, f, c.want)
	}
	for _, film := range []api.Film{ending(2, 1, api.MaxTime/2+1), ending(api.MaxScale, 1, api.MaxTime), ending(3, 2, 666666666666667)} {
		n, f := box.Lasts(film, 0)
		isNot(t, "Lasts", n, f, api.ErrRange)
	}
	film := api.Film{Scale: 1, Tracks: []api.Track{ending(1, 1, 5).Tracks[0], {Name: "b", Scale: 1, Edits: edits(9, 0), Samples: samplesOf(3)}}}
	for track, want := range []int{5, 9} {
		n, f := box.Lasts(film, track)
		is(t, fmt.Sprint("Lasts ", track), n, f, want)
	}
}

func TestMediaAt(t *testing.T) {
	example := edited(1000, 90000, edits(500, -1, 1000, 9000))
	twice := edited(2, 3, edits(4, 10, 3, -1, 5, 0))
	for _, c := range []struct {
		film       api.Film
		time, want int
	}{
		{example, 500, 9000}, {example, 501, 9090}, {example, 1499, 98910},
		{twice, 0, 10}, {twice, 1, 11}, {twice, 2, 13}, {twice, 3, 14}, {twice, 7, 0}, {twice, 8, 1}, {twice, 11, 6}, // each edit is rounded for itself
		{edited(3, 1, nil), 0, 0}, {edited(3, 1, nil), 2, 0}, {edited(3, 1, nil), 3, 1},
		{edited(1, 1, nil), api.MaxTime, api.MaxTime}, // without edits there is no end
		{edited(api.MaxScale, 1, nil), api.MaxTime, 1000000},
		{edited(1, api.MaxScale, nil), 1000000, api.MaxTime},
		{edited(1, 1, edits(api.MaxTime, 0)), api.MaxTime - 1, api.MaxTime - 1},
		{edited(1, 1, edits(10, api.MaxTime-5)), 5, api.MaxTime},
	} {
		n, f := box.MediaAt(c.film, 0, c.time)
		is(t, fmt.Sprint("MediaAt ", c.film, c.time), n, f, c.want)
	}
	for _, c := range []struct {
		film api.Film
		time int
		want api.Fault
	}{
		{example, -1, api.ErrRange}, {example, api.MaxTime + 1, api.ErrRange}, {edited(1, 1, nil), -1, api.ErrRange}, {edited(1, 1, nil), math.MaxInt, api.ErrRange},
		{example, 0, api.ErrNone}, {example, 499, api.ErrNone}, {example, 1500, api.ErrNone}, {example, api.MaxTime, api.ErrNone},
		{twice, 4, api.ErrNone}, {twice, 6, api.ErrNone}, {twice, 12, api.ErrNone}, {edited(1, 1, edits(api.MaxTime, 0)), api.MaxTime, api.ErrNone},
		{edited(1, 1, edits(10, api.MaxTime-5)), 6, api.ErrRange}, {edited(1, api.MaxScale, nil), 1000001, api.ErrRange},
		{edited(1, api.MaxScale, edits(api.MaxTime, 0)), api.MaxTime - 1, api.ErrRange},
	} {
		n, f := box.MediaAt(c.film, 0, c.time)
		isNot(t, fmt.Sprint("MediaAt ", c.film, c.time), n, f, c.want)
	}
}

// spans returns spans of pairs of From and To.
func spans(numbers ...int) (l []api.Span) {
	pairs(numbers, func(a, b int) { l = append(l, api.Span{From: a, To: b}) })
	return l
}

func TestFilmAt(t *testing.T) {
	example := edited(1000, 90000, edits(500, -1, 1000, 9000))
	for _, c := range []struct {
		film  api.Film
		media int
		want  []api.Span
	}{
		{example, 9090, spans(501, 502)}, {example, 9000, spans(500, 501)}, {example, 9001, nil}, {example, 0, nil}, {example, 98910, spans(1499, 1500)}, {example, 99000, nil},
		{edited(3, 1, edits(7, 5)), 5, spans(0, 3)}, {edited(3, 1, edits(7, 5)), 7, spans(6, 7)}, {edited(3, 1, edits(7, 5)), 8, nil},
		{edited(1, 1, edits(9, 5, 2, -1, 9, 0)), 8, spans(3, 4, 19, 20)},
		{edited(1, 1, edits(3, 5, 3, 7)), 7, spans(2, 4)}, // those that touch are one
		{edited(2, 1, edits(2, 5, 2, 5, 1, -1, 2, 5)), 5, spans(0, 4, 5, 7)},
		{edited(3, 1, nil), 0, spans(0, 3)}, {edited(3, 1, nil), 4, spans(12, 15)}, {edited(2, 3, nil), 2, nil}, {edited(2, 3, nil), 3, spans(2, 3)},
		{edited(1, 1, nil), api.MaxTime - 1, spans(api.MaxTime-1, api.MaxTime)}, {edited(1, 1, nil), api.MaxTime, nil}, // only below MaxTime
		{edited(api.MaxScale, 1, nil), 999999, spans(999999000000000, api.MaxTime)}, {edited(api.MaxScale, 1, nil), 1000000, nil},
		{edited(api.MaxScale, 1, nil), api.MaxTime, nil}, {edited(1, api.MaxScale, nil), api.MaxTime, spans(1000000, 1000001)},
		{edited(1, api.MaxScale, nil), api.MaxTime - 1, nil}, {edited(2, api.MaxScale, nil), api.MaxTime, spans(2000000, 2000001)},
		{edited(api.MaxScale, 1, edits(api.MaxTime, 7)), 1000006, spans(999999000000000, api.MaxTime)},
		{edited(999999937, 1, edits(api.MaxTime, 0)), 1000000, spans(999999937000000, api.MaxTime)},
		{edited(1, 1, edits(10, api.MaxTime-5)), api.MaxTime, spans(5, 6)}, {edited(5, 1, edits(10, api.MaxTime)), api.MaxTime, spans(0, 5)},
		{edited(1, 1, edits(api.MaxTime, 0)), api.MaxTime, nil}, {edited(1, 1, edits(5, -1)), 0, nil}, {edited(1, 1, edits(api.MaxTime-1, -1, 1, 0)), 0, spans(api.MaxTime-1, api.MaxTime)},
	} {
		l, f := box.FilmAt(c.film, 0, c.media)
		is(t, fmt.Sprint("FilmAt ", c.film, c.media), l, f, c.want)
	}
	for _, media := range []int{-1, -2, api.MaxTime + 1, math.MinInt, math.MaxInt} {
		for _, film := range []api.Film{example, edited(1, 1, nil)} {
			l, f := box.FilmAt(film, 0, media)
			isNot(t, fmt.Sprint("FilmAt ", media), l, f, api.ErrRange)
		}
	}
}

func TestShown(t *testing.T) {
	for what, c := range map[string]struct {
		film api.Film
		want []api.Span
	}{
		"example":            {edited(1000, 90000, edits(500, -1, 1000, 9000)), spans(9000, 99000)},
		"nothing":            {edited(1, 1, nil), nil},
		"samples":            {ending(7, 9, 50), spans(0, 50)},
		"samples below 0":    {ending(7, 9, -50), nil},
		"end 0":              {ending(7, 9, 0), nil},
		"the last time":      {ending(7, 9, api.MaxTime), spans(0, api.MaxTime)},
		"pauses":             {edited(1, 1, edits(5, -1, 6, -1)), nil},
		"up":                 {edited(3, 1, edits(4, 10)), spans(10, 12)},
		"up to one":          {edited(api.MaxScale, 1, edits(1, 10)), spans(10, 11)},
		"not in order":       {edited(1, 1, edits(5, 100, 5, 0, 5, 50)), spans(0, 5, 50, 55, 100, 105)},
		"within one another": {edited(1, 1, edits(50, 0, 5, 10, 20, 40)), spans(0, 60)},
		"touching":           {edited(1, 1, edits(5, 5, 5, 0, 5, 10)), spans(0, 15)},
		"beside one another": {edited(1, 1, edits(5, 6, 5, 0)), spans(0, 5, 6, 11)},
		"to the last time":   {edited(1, 1, edits(10, api.MaxTime-5)), spans(api.MaxTime-5, api.MaxTime)},
		"the last time only": {edited(1, 1, edits(10, api.MaxTime, 1, 0)), spans(0, 1)},
		"beyond all times":   {edited(1, api.MaxScale, edits(api.MaxTime, 5)), spans(5, api.MaxTime)},
		"samples do not":     {api.Film{Scale: 1, Tracks: []api.Track{{Name: "a", Scale: 1, Samples: samplesOf(5), Edits: edits(9, 3)}}}, spans(3, 12)},
	} {
		l, f := box.Shown(c.film, 0)
		is(t, "Shown "+what, l, f, c.want)
	}
	var many []api.Edit
	var want []api.Span
	for i := range api.MaxEdits {
		many = append(many, api.Edit{Length: 1, Media: 2 * i})
		want = append(want, api.Span{From: 2 * i, To: 2*i + 1})
	}
	slices.Reverse(many)
	l, f := box.Shown(edited(1, 1, many), 0)
	is(t, "Shown of all edits", l, f, want)
}

// FilmAt has just the ticks that MediaAt says, and Shown those that are presented, and no others than it says itself.
func TestEditsAgree(t *testing.T) {
	r := rand.New(rand.NewSource(1))
	for range 400 {
		var l []api.Edit
		for range 1 + r.Intn(4) {
			l = append(l, api.Edit{Length: 1 + r.Intn(8), Media: r.Intn(12) - 1})
		}
		film := edited(1+r.Intn(5), 1+r.Intn(5), l)
		lasts, f := box.Lasts(film, 0)
		if f != api.OK {
			t.Fatal("Lasts", film, f)
		}
		at := map[int][]int{}
		for time := range lasts {
			media, f := box.MediaAt(film, 0, time)
			if f == api.OK {
				at[media] = append(at[media], time)
			} else if f != api.ErrNone {
				t.Error("MediaAt", film, time, f)
			}
		}
		shown := shownOf(film)
		for media := range 60 {
			l, f := box.FilmAt(film, 0, media)
			is(t, fmt.Sprint("FilmAt ", film, media), ticksOf(l), f, at[media])
			if len(l) > 0 && !shown[media] {
				t.Error("Shown", film, media)
			}
		}
		got, f := box.Shown(film, 0)
		for i, s := range got {
			if i > 0 && s.From <= got[i-1].To {
				t.Error("Shown", film, got)
			}
		}
		var want []int
		for media := range 60 {
			if shown[media] {
				want = append(want, media)
			}
		}
		is(t, fmt.Sprint("Shown ", film), ticksOf(got), f, want)
	}
}

// shownOf returns the ticks of the medium that the edits of a film stand for.
func shownOf(film api.Film) map[int]bool {
	shown := map[int]bool{}
	for _, e := range film.Tracks[0].Edits {
		for media := e.Media; e.Media >= 0 && (media-e.Media)*film.Scale < e.Length*film.Tracks[0].Scale; media++ {
			shown[media] = true
		}
	}
	return shown
}

func ticksOf(l []api.Span) []int {
	var ticks []int
	for _, s := range l {
		for tick := s.From; tick < s.To; tick++ {
			ticks = append(ticks, tick)
		}
	}
	return ticks
}

func TestFilmsStay(t *testing.T) {
	film := edited(2, 3, roomy(edits(4, 10, 3, -1, 5, 0)))
	film.Tracks[0].Samples = roomy(samplesOf(1, 2, 3))
	film.Tracks = roomy(film.Tracks)
	untouched(t, "functions with films", film, func() {
		box.CheckFilm(film)
		box.Lasts(film, 0)
		box.MediaAt(film, 0, 3)
		l, _ := box.FilmAt(film, 0, 3)
		apart(t, "FilmAt", l, film)
		l, _ = box.Shown(film, 0)
		apart(t, "Shown", l, film)
	})
}
