package lines_test

import (
	"strings"
	"testing"

	"headend/lines"
)

func TestReader(t *testing.T) {
	var taken []string
	any := func(line string) bool {
		taken = append(taken, line)
		return true
	}
	never := func(line string) bool { return false }
	r := lines.Of("a\n\nb c\nd")
	for i, want := range []string{"a", "", "b c"} {
		if !r.Left() || r.Line() != i+1 {
			t.Error("before", want, r.Left(), r.Line())
		}
		if r.Take(never) || r.Line() != i+1 {
			t.Error("a line was taken that has no form")
		}
		if !r.Take(any) || taken[i] != want {
			t.Errorf("%d: %q, want %q", i, taken, want)
		}
	}
	for range 2 { // the last line has no end
		if r.Take(any) || !r.Left() || r.Line() != 4 || len(taken) != 3 {
			t.Error("at the end", r.Left(), r.Line(), taken)
		}
	}
	for text, line := range map[string]int{"": 1, "a\n": 2} {
		r := lines.Of(text)
		r.Take(any)
		if r.Left() || r.Line() != line || r.Take(any) {
			t.Errorf("%q: %v %d", text, r.Left(), r.Line())
		}
	}
}

func TestNumber(t *testing.T) {
	for word, want := range map[string]int{"0": 0, "1": 1, "9": 9, "10": 10, "999": 999} {
		if n, is := lines.Number(word, 3); !is || n != want {
			t.Error("Number", word, n, is)
		}
	}
	long := strings.Repeat("9", 18)
	if n, is := lines.Number(long, 18); !is || n != 999999999999999999 {
		t.Error("Number", n, is)
	}
	for _, word := range []string{"", "00", "01", "-1", "-0", "+1", " 1", "1 ", "1.", "1.0", "x", "0x1", "1_0", "1e1", "1000", "٣", "1\x00", long, long + long} {
		if n, is := lines.Number(word, 3); is || n != 0 {
			t.Error("Number", word, n, is)
		}
	}
}

func TestNumbers(t *testing.T) {
	var a, b int
	if !lines.Numbers([]string{"12", "0"}, 2, &a, &b) || a != 12 || b != 0 {
		t.Error("Numbers", a, b)
	}
	if !lines.Numbers(nil, 2) {
		t.Error("Numbers of none")
	}
	for _, words := range [][]string{nil, {"1"}, {"1", "2", "3"}, {"1", "x"}, {"x", "1"}, {"1", "123"}} {
		if lines.Numbers(words, 2, &a, &b) {
			t.Error("Numbers", words)
		}
	}
}
