package ladder

import (
	"strconv"
	"strings"

	"headend/api"
	"headend/lines"
)

const maxDigits = 15 // of a number

// Text writes renditions, each on a line.
func Text(l []api.Rung) (string, api.Fault) {
	if fault := CheckRenditions(l); fault != api.OK {
		return "", fault
	}
	var text strings.Builder
	for _, r := range l {
		text.WriteString(r.Name)
		for _, n := range []int{r.Rate, r.Height, r.Quality} {
			text.WriteString(lines.Blank + strconv.Itoa(n))
		}
		text.WriteString(lines.End)
	}
	return text.String(), api.OK
}

// Read returns the renditions of a text, or the number of the first line that is none.
func Read(text string) ([]api.Rung, int, api.Fault) {
	if len(text) > api.MaxLadderText {
		return nil, 0, api.ErrLarge
	}
	var l []api.Rung
	keep := func(line string) bool {
		r, isRung := readRung(line)
		l = append(l, r)
		return isRung
	}
	reader := lines.Of(text)
	for reader.Left() {
		if !reader.Take(keep) {
			return nil, reader.Line(), api.ErrSyntax
		}
	}
	if fault := CheckRenditions(l); fault != api.OK {
		return nil, 0, fault
	}
	return l, 0, api.OK
}

// readRung returns the rendition of a line, without its end.
func readRung(line string) (api.Rung, bool) {
	words := strings.Split(line, lines.Blank)
	r := api.Rung{Name: strings.Clone(words[0])} // as part of the line it would keep the whole text
	if r.Name == "" || !lines.Numbers(words[1:], maxDigits, &r.Rate, &r.Height, &r.Quality) {
		return api.Rung{}, false
	}
	return r, true
}
