package list

import (
	"slices"

	"headend/api"
	"headend/check"
)

const (
	maxBits     = 10000000000 // bits per second of a stream
	minLanguage = 2           // bytes
	maxLanguage = 8
)

// CheckMaster validates the list of all renditions.
func CheckMaster(m api.Master) api.Fault {
	if len(m.Streams) > api.MaxStreams || len(m.Sounds) > api.MaxStreams {
		return api.ErrLarge
	}
	for i, s := range m.Sounds {
		if fault := checkSound(s, m.Sounds[:i]); fault != api.OK {
			return fault
		}
	}
	for i, s := range m.Streams {
		fault := checkStream(s, m.Streams[:i])
		isSound := func(sound api.Sound) bool { return sound.Group == s.Sound }
		isMissing := s.Sound != "" && !slices.ContainsFunc(m.Sounds, isSound)
		if fault := check.First(fault, check.If(isMissing, api.ErrName)); fault != api.OK {
			return fault
		}
	}
	return api.OK
}

// checkSound validates a sound behind earlier ones.
func checkSound(s api.Sound, earlier []api.Sound) api.Fault {
	isTwice := func(e api.Sound) bool { return e.Group == s.Group && e.Name == s.Name }
	isClash := func(e api.Sound) bool { return s.Default && e.Default && e.Group == s.Group }
	return check.First(
		check.If(!check.IsName(s.Group) || !check.IsName(s.Name), api.ErrName),
		check.If(slices.ContainsFunc(earlier, isTwice), api.ErrTwice),
		check.If(!isLanguage(s.Language), api.ErrForm),
		check.If(slices.ContainsFunc(earlier, isClash), api.ErrClash),
		check.If(!isUri(s.Uri), api.ErrForm),
	)
}

func isLanguage(text string) bool {
	for i := range len(text) {
		if !check.IsLetter(text[i]) && text[i] != '-' {
			return false
		}
	}
	return check.Within(len(text), minLanguage, maxLanguage)
}

// checkStream validates a stream behind earlier ones, but for its Sound.
func checkStream(s api.Stream, earlier []api.Stream) api.Fault {
	isTwice := func(e api.Stream) bool { return e.Name == s.Name }
	isRate := check.Within(s.Mean, 1, maxBits) && check.Within(s.Peak, s.Mean, maxBits)
	isPicture := isSide(s.Width) && isSide(s.Height) && (s.Width == 0) == (s.Height == 0)
	return check.First(
		check.If(!check.IsName(s.Name), api.ErrName),
		check.If(slices.ContainsFunc(earlier, isTwice), api.ErrTwice),
		check.If(!isUri(s.Uri), api.ErrForm),
		check.If(!isRate, api.ErrRange),
		check.If(!isPicture, api.ErrRange),
	)
}

func isSide(n int) bool { return check.Within(n, 0, api.MaxSide) }

// Best returns the place of the stream that suits a rate and a screen.
func Best(m api.Master, rate, width, height int) (int, api.Fault) {
	fault := check.First(
		CheckMaster(m),
		check.If(!check.Within(rate, 0, maxBits), api.ErrRange),
		check.If(!isSide(width) || !isSide(height), api.ErrRange),
	)
	if fault != api.OK {
		return 0, fault
	}
	fitsScreen := func(s api.Stream) bool { return s.Width <= width && s.Height <= height }
	if width == 0 && height == 0 {
		fitsScreen = func(api.Stream) bool { return true }
	}
	fitsBoth := func(s api.Stream) bool { return fitsScreen(s) && s.Peak <= rate }
	if i, found := greatest(m.Streams, fitsBoth, func(s api.Stream) int { return s.Mean }); found {
		return i, api.OK
	}
	if i, found := greatest(m.Streams, fitsScreen, func(s api.Stream) int { return -s.Peak }); found {
		return i, api.OK
	}
	return 0, api.ErrNone
}

// greatest returns the place of the first one of the streams that fit whose worth is greatest, or false, if none fits.
func greatest(streams []api.Stream, fits func(s api.Stream) bool, worth func(s api.Stream) int) (int, bool) {
	best, found := 0, false
	for i, s := range streams {
		if fits(s) && (!found || worth(s) > worth(streams[best])) {
			best, found = i, true
		}
	}
	return best, found
}
