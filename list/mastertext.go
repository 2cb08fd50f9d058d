package list

import (
	"cmp"
	"slices"
	"strconv"
	"strings"

	"headend/api"
	"headend/check"
	"headend/lines"
)

// Heads and words of the lines of the list of all renditions.
const (
	headMaster  = "#MASTER"
	headSound   = "#SOUND"
	headStream  = "#STREAM"
	wordDefault = "DEFAULT"
)

const maxMasterDigits = 11 // of a number

// MasterText writes the list of all renditions.
func MasterText(m api.Master) (string, api.Fault) {
	if fault := CheckMaster(m); fault != api.OK {
		return "", fault
	}
	return textOf(func(put putter) {
		put(headMaster)
		for _, s := range m.Sounds {
			words := []string{headSound, s.Group, s.Name, s.Language}
			if s.Default {
				words = append(words, wordDefault)
			}
			put(words...)
			put(s.Uri)
		}
		for _, s := range m.Streams {
			words := []string{headStream, s.Name}
			for _, n := range []int{s.Mean, s.Peak, s.Width, s.Height} {
				words = append(words, strconv.Itoa(n))
			}
			put(append(words, cmp.Or(s.Sound, nothing))...)
			put(s.Uri)
		}
	})
}

// ReadMaster returns the list of all renditions of a text, or the number of the first line that is wrong.
func ReadMaster(text string) (api.Master, int, api.Fault) {
	if len(text) > api.MaxListText {
		return api.Master{}, 0, api.ErrLarge
	}
	var m api.Master
	r := lines.Of(text)
	if !takeMaster(r, &m) {
		return api.Master{}, r.Line(), api.ErrSyntax
	}
	if fault := CheckMaster(m); fault != api.OK {
		return api.Master{}, 0, fault
	}
	return m, 0, api.OK
}

// takeMaster takes the lines of the list of all renditions, or those before the first one that is wrong.
func takeMaster(r *lines.Reader, m *api.Master) bool {
	if !r.Take(alone(headMaster)) {
		return false
	}
	var sound api.Sound
	for r.Take(soundLine(&sound)) {
		if !r.Take(uri(&sound.Uri)) {
			return false
		}
		m.Sounds = append(m.Sounds, sound)
	}
	var stream api.Stream
	for r.Left() {
		if !r.Take(streamLine(&stream)) || !r.Take(uri(&stream.Uri)) {
			return false
		}
		m.Streams = append(m.Streams, stream)
	}
	return true
}

// row is the form of a line that has a head, and words behind it that read takes.
func row(head string, read func(words []string) bool) lines.Form {
	return after(head, func(rest string) bool {
		words := strings.Split(strings.Clone(rest), lines.Blank)
		isNone := func(word string) bool { return !check.IsWord(word) }
		return !slices.ContainsFunc(words, isNone) && read(words)
	})
}

func soundLine(s *api.Sound) lines.Form {
	return row(headSound, func(words []string) bool {
		isDefault := len(words) == 4 && words[3] == wordDefault
		if len(words) != 3 && !isDefault {
			return false
		}
		*s = api.Sound{Group: words[0], Name: words[1], Language: words[2], Default: isDefault}
		return true
	})
}

func streamLine(s *api.Stream) lines.Form {
	return row(headStream, func(words []string) bool {
		if len(words) != 6 {
			return false
		}
		*s = api.Stream{Name: words[0], Sound: meant(words[5])}
		return lines.Numbers(words[1:5], maxMasterDigits, &s.Mean, &s.Peak, &s.Width, &s.Height)
	})
}
