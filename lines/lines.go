// Package lines reads texts line by line, and the numbers in them. Each line ends with the byte 10.
package lines

import (
	"strconv"
	"strings"
)

const (
	End   = "\n" // of a line
	Blank = " "  // between words
)

// Form says whether a line, without its end, can stand where it is; if so, it keeps what the line says.
type Form func(line string) bool

// Reader takes the lines of a text, one after another, and stays at the first one that is wrong.
type Reader struct {
	rest string
	line int
}

// Of returns a reader of a text.
func Of(text string) *Reader { return &Reader{rest: text, line: 1} }

// Line returns the number of the next line, from 1 on.
func (r *Reader) Line() int { return r.line }

// Left says whether something is left.
func (r *Reader) Left() bool { return r.rest != "" }

// Take takes the next line, if there is one with its end, and it has a form.
func (r *Reader) Take(form Form) bool {
	line, rest, isEnded := strings.Cut(r.rest, End)
	if !isEnded || !form(line) {
		return false
	}
	r.rest = rest
	r.line++
	return true
}

// Number returns the number that a word is: from 1 to so many digits, at most 18, without a needless 0.
func Number(word string, digits int) (int, bool) {
	n, err := strconv.Atoi(word)
	if err != nil || n < 0 || len(word) > digits || strconv.Itoa(n) != word {
		return 0, false
	}
	return n, true
}

// Numbers reads words that are as many numbers as there are places for them, each of at most so many digits.
func Numbers(words []string, digits int, places ...*int) bool {
	if len(words) != len(places) {
		return false
	}
	for i, word := range words {
		n, isNumber := Number(word, digits)
		if !isNumber {
			return false
		}
		*places[i] = n
	}
	return true
}
