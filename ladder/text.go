package ladder

import (
	"strconv"
	"strings"

	"headend/api"
)

const (
	blank     = " "
	lineEnd   = "\n"
	maxDigits = 15 // of a number
)

// Text writes renditions, each on a line.
func Text(l []api.Rung) (string, api.Fault) {
	if fault := CheckRenditions(l); fault != api.OK {
		return "", fault
	}
	var text strings.Builder
	for _, r := range l {
		text.WriteString(r.Name)
		for _, n := range []int{r.Rate, r.Height, r.Quality} {
			text.WriteString(blank + strconv.Itoa(n))
		}
		text.WriteString(lineEnd)
	}
	return text.String(), api.OK
}

// Read returns the renditions of a text, or the number of the first line that is none.
func Read(text string) ([]api.Rung, int, api.Fault) {
	if len(text) > api.MaxLadderText {
		return nil, 0, api.ErrLarge
	}
	var l []api.Rung
	for text != "" {
		line, rest, isEnded := strings.Cut(text, lineEnd)
		r, isRung := readRung(line)
		if !isRung || !isEnded {
			return nil, len(l) + 1, api.ErrSyntax
		}
		l, text = append(l, r), rest
	}
	if fault := CheckRenditions(l); fault != api.OK {
		return nil, 0, fault
	}
	return l, 0, api.OK
}

// readRung returns the rendition of a line, without its end.
func readRung(line string) (api.Rung, bool) {
	words := strings.Split(line, blank)
	r := api.Rung{Name: strings.Clone(words[0])} // as part of the line it would keep the whole text
	numbers := []*int{&r.Rate, &r.Height, &r.Quality}
	if r.Name == "" || len(words) != 1+len(numbers) {
		return api.Rung{}, false
	}
	for i, word := range words[1:] {
		n, isNumber := readNumber(word)
		if !isNumber {
			return api.Rung{}, false
		}
		*numbers[i] = n
	}
	return r, true
}

// readNumber returns the number that digits are, without a needless 0.
func readNumber(word string) (int, bool) {
	n, err := strconv.Atoi(word)
	if err != nil || n < 0 || len(word) > maxDigits || strconv.Itoa(n) != word {
		return 0, false
	}
	return n, true
}
