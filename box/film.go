package box

import (
	"slices"
	"sort"

	"headend/api"
	"headend/check"
	"headend/tick"
)

// pause is Media of an edit in which nothing is presented.
const pause = -1

// CheckFilm validates a film.
func CheckFilm(f api.Film) api.Fault {
	if !check.IsScale(f.Scale) {
		return api.ErrRange
	}
	if len(f.Tracks) > api.MaxTracks {
		return api.ErrLarge
	}
	for i, t := range f.Tracks {
		twice := slices.ContainsFunc(f.Tracks[:i], func(before api.Track) bool { return before.Name == t.Name })
		fault := check.First(
			check.If(!check.IsName(t.Name), api.ErrName),
			check.If(twice, api.ErrTwice),
			check.If(!check.IsScale(t.Scale), api.ErrRange),
			CheckSamples(t.Samples),
			checkEdits(t.Edits),
		)
		if fault != api.OK {
			return fault
		}
	}
	return api.OK
}

func checkEdits(l []api.Edit) api.Fault {
	if len(l) > api.MaxEdits {
		return api.ErrLarge
	}
	for _, e := range l {
		if !check.Within(e.Length, 1, api.MaxTime) || !check.Within(e.Media, pause, api.MaxTime) {
			return api.ErrRange
		}
	}
	return check.If(lengthOf(l) > api.MaxTime, api.ErrRange)
}

// lengthOf returns how many ticks of the film edits have together.
func lengthOf(l []api.Edit) int {
	n := 0
	for _, e := range l {
		n += e.Length
	}
	return n
}

// trackOf returns a track of a film that is validated first.
func trackOf(f api.Film, track int) (api.Track, api.Fault) {
	if fault := CheckFilm(f); fault != api.OK {
		return api.Track{}, fault
	}
	if !check.Within(track, 0, len(f.Tracks)-1) {
		return api.Track{}, api.ErrRange
	}
	return f.Tracks[track], api.OK
}

// editsOf returns the edits of a track; one without edits is presented as by one that has all ticks, up to MaxTime itself.
func editsOf(t api.Track) []api.Edit {
	if len(t.Edits) == 0 {
		return []api.Edit{{Length: api.MaxTime + 1, Media: 0}}
	}
	return t.Edits
}

// Lasts returns how many ticks of the film a track has.
func Lasts(f api.Film, track int) (int, api.Fault) {
	t, fault := trackOf(f, track)
	if fault != api.OK {
		return 0, fault
	}
	if len(t.Edits) > 0 {
		return lengthOf(t.Edits), api.OK
	}
	return tick.Convert(max(endOf(t.Samples), 0), t.Scale, f.Scale, api.Up)
}

// MediaAt returns the tick of the medium at a tick of the film.
func MediaAt(f api.Film, track, time int) (int, api.Fault) {
	t, fault := trackOf(f, track)
	if fault != api.OK {
		return 0, fault
	}
	if !check.Within(time, 0, api.MaxTime) {
		return 0, api.ErrRange
	}
	for _, e := range editsOf(t) {
		if time >= e.Length {
			time -= e.Length
			continue
		}
		if e.Media == pause {
			return 0, api.ErrNone
		}
		passed, fault := tick.Convert(time, f.Scale, t.Scale, api.Down)
		if fault != api.OK || !check.IsTime(e.Media+passed) {
			return 0, api.ErrRange
		}
		return e.Media + passed, api.OK
	}
	return 0, api.ErrNone
}

// FilmAt returns the spans of the ticks of the film at which a tick of the medium is presented.
func FilmAt(f api.Film, track, media int) ([]api.Span, api.Fault) {
	t, fault := trackOf(f, track)
	if fault != api.OK {
		return nil, fault
	}
	if !check.Within(media, 0, api.MaxTime) {
		return nil, api.ErrRange
	}
	var spans []api.Span
	begin := 0
	for _, e := range editsOf(t) {
		length := min(e.Length, api.MaxTime-begin)
		// A number of ticks that is beyond all times is more than any that is asked for.
		firstWith := func(passed int) int {
			return sort.Search(length, func(k int) bool {
				n, fault := tick.Convert(k, f.Scale, t.Scale, api.Down)
				return fault != api.OK || n >= passed
			})
		}
		if passed := media - e.Media; e.Media != pause && passed >= 0 {
			spans = tick.AppendSpan(spans, begin+firstWith(passed), begin+firstWith(passed+1))
		}
		begin += length
	}
	return spans, api.OK
}

// Shown returns the spans of the ticks of the medium that are presented.
func Shown(f api.Film, track int) ([]api.Span, api.Fault) {
	t, fault := trackOf(f, track)
	if fault != api.OK {
		return nil, fault
	}
	if len(t.Edits) == 0 {
		return tick.AppendSpan(nil, 0, endOf(t.Samples)), api.OK
	}
	var spans []api.Span
	for _, e := range t.Edits {
		if e.Media == pause {
			continue
		}
		shown := tick.AppendSpan(nil, e.Media, endOfEdit(f, t, e))
		spans, fault = tick.Join(spans, shown)
		if fault != api.OK {
			return nil, fault
		}
	}
	return spans, api.OK
}

// endOfEdit returns where an edit ends in the medium, but no later than at the last time.
func endOfEdit(f api.Film, t api.Track, e api.Edit) int {
	length, fault := tick.Convert(e.Length, f.Scale, t.Scale, api.Up)
	if fault != api.OK {
		return api.MaxTime
	}
	return min(e.Media+length, api.MaxTime)
}
