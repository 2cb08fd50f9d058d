package ladder_test

import (
	"fmt"
	"math/rand"
	"strings"
	"testing"

	"headend/api"
	"headend/ladder"
)

func TestText(t *testing.T) {
	long := strings.Repeat("z", api.MaxName)
	for what, c := range map[string]struct {
		l    []api.Rung
		want string
	}{
		"none":         {nil, ""},
		"the example":  {example(), "r000 1000 100 30\nr001 2000 100 60\nr002 3000 100 70\nr003 4000 100 90\n"},
		"the least":    {[]api.Rung{{Name: "a", Rate: 1, Height: 1, Quality: 0}}, "a 1 1 0\n"},
		"the greatest": {[]api.Rung{{Name: long, Rate: api.MaxBits, Height: api.MaxHeight, Quality: api.MaxQuality}}, long + " 1000000000 10000 1000000\n"},
		"one Rate":     {[]api.Rung{{Name: "a-", Rate: 7, Height: 8, Quality: 9}, {Name: "a0", Rate: 7, Height: 8, Quality: 9}}, "a- 7 8 9\na0 7 8 9\n"},
	} {
		text, f := ladder.Text(c.l)
		is(t, "Text "+what, text, f, c.want)
		l, line, f := ladder.Read(c.want)
		is(t, "Read "+what, l, f, c.l)
		is(t, "Read "+what, line, f, 0)
	}
}

// The longest text that there can be is one that can be read.
func TestLongestText(t *testing.T) {
	var l []api.Rung
	for i := range api.MaxRenditions {
		name := nameOf(i) + strings.Repeat("-", api.MaxName-4)
		l = append(l, api.Rung{Name: name, Rate: api.MaxBits, Height: api.MaxHeight, Quality: api.MaxQuality})
	}
	text, f := ladder.Text(l)
	is(t, "length of Text", len(text), f, api.MaxRenditions*(api.MaxName+len(" 1000000000 10000 1000000\n")))
	got, line, f := ladder.Read(text)
	is(t, "Read", got, f, l)
	is(t, "Read", line, f, 0)
}

func TestReadFaults(t *testing.T) {
	const good, second = "a 1 2 3\n", "b 4 5 6\n"
	const digits15, digits16 = "999999999999999", "1000000000000000"
	lines := func(n int) string {
		var text strings.Builder
		for i := range n {
			fmt.Fprintf(&text, "%s %d 2 3\n", nameOf(i), i+1)
		}
		return text.String()
	}
	for what, c := range map[string]struct {
		text string
		line int
		want api.Fault
	}{
		"too long":                       {strings.Repeat("\n", api.MaxLadderText+1), 0, api.ErrLarge},
		"too long, but good":             {good + strings.Repeat("x", api.MaxLadderText), 0, api.ErrLarge},
		"not too long":                   {strings.Repeat("\n", api.MaxLadderText), 1, api.ErrSyntax},
		"a name of just so many bytes":   {strings.Repeat("x", api.MaxLadderText-len(" 1 2 3\n")) + " 1 2 3\n", 0, api.ErrName},
		"an empty line":                  {"\n", 1, api.ErrSyntax},
		"an empty line at last":          {good + "\n", 2, api.ErrSyntax},
		"an empty line between":          {good + "\n" + second, 2, api.ErrSyntax},
		"no end":                         {"a 1 2 3", 1, api.ErrSyntax},
		"no end of the second":           {good + "b 4 5 6", 2, api.ErrSyntax},
		"no end, and no line":            {good + second + "c", 3, api.ErrSyntax},
		"another end":                    {"a 1 2 3\r\n", 1, api.ErrSyntax},
		"an end of zero":                 {"a 1 2 3\x00", 1, api.ErrSyntax},
		"too few words":                  {good + "b 4 5\n", 2, api.ErrSyntax},
		"too many words":                 {good + "b 4 5 6 7\n", 2, api.ErrSyntax},
		"one word":                       {"x\n", 1, api.ErrSyntax},
		"no name":                        {" 1 2 3\n", 1, api.ErrSyntax},
		"no name, but all others":        {"1 2 3\n", 1, api.ErrSyntax},
		"a blank before":                 {" a 1 2 3\n", 1, api.ErrSyntax},
		"a blank behind":                 {"a 1 2 3 \n", 1, api.ErrSyntax},
		"two blanks":                     {"a  1 2 3\n", 1, api.ErrSyntax},
		"two blanks instead of a number": {"a 1  3\n", 1, api.ErrSyntax},
		"another blank":                  {"a 1\t2 3\n", 1, api.ErrSyntax},
		"another blank in a number":      {"a 1 2 \t3\n", 1, api.ErrSyntax},
		"a needless 0 of Rate":           {"a 01 2 3\n", 1, api.ErrSyntax},
		"a needless 0 of Height":         {"a 1 02 3\n", 1, api.ErrSyntax},
		"a needless 0 of Quality":        {"a 1 2 00\n", 1, api.ErrSyntax},
		"a needless 0 of many":           {"a 1 2 0000000000000003\n", 1, api.ErrSyntax},
		"a sign":                         {"a 1 2 +3\n", 1, api.ErrSyntax},
		"below 0":                        {"a 1 2 -3\n", 1, api.ErrSyntax},
		"0 below 0":                      {"a 1 2 -0\n", 1, api.ErrSyntax},
		"a point":                        {"a 1 2 3.0\n", 1, api.ErrSyntax},
		"a letter":                       {"a 1 2 3x\n", 1, api.ErrSyntax},
		"another base":                   {"a 1 2 0x3\n", 1, api.ErrSyntax},
		"a line below":                   {"a 1_0 2 3\n", 1, api.ErrSyntax},
		"other digits":                   {"a ٣ 2 3\n", 1, api.ErrSyntax},
		"16 digits":                      {"a " + digits16 + " 2 3\n", 1, api.ErrSyntax},
		"16 digits of Quality":           {good + "b 1 2 " + digits16 + "\n", 2, api.ErrSyntax},
		"far too many digits":            {"a 1 2 " + strings.Repeat("9", 100) + "\n", 1, api.ErrSyntax},
		"15 digits":                      {"a 1 2 " + digits15 + "\n", 0, api.ErrRange},
		"15 digits of Rate":              {"a " + digits15 + " 2 3\n", 0, api.ErrRange},
		"15 digits of Height":            {"a 1 " + digits15 + " 3\n", 0, api.ErrRange},
		"0":                              {"a 0 2 3\n", 0, api.ErrRange},
		"the first one of two":           {"a\nb\n", 1, api.ErrSyntax},
		// what can be read is then validated
		"a name that is none":        {"9 1 2 3\n", 0, api.ErrName},
		"a name of any bytes":        {"\x00\xff\r\t 1 2 3\n", 0, api.ErrName},
		"no order":                   {second + good, 0, api.ErrOrder},
		"a name twice":               {good + "a 2 2 3\n", 0, api.ErrTwice},
		"a line before a name":       {"9 1 2 3\nx\n", 2, api.ErrSyntax},
		"too many":                   {lines(api.MaxRenditions + 1), 0, api.ErrLarge},
		"a line behind too many":     {lines(api.MaxRenditions+1) + "x\n", api.MaxRenditions + 2, api.ErrSyntax},
		"no end behind too many":     {strings.TrimSuffix(lines(api.MaxRenditions+7), "\n"), api.MaxRenditions + 7, api.ErrSyntax},
		"as many lines as there can": {strings.Repeat("a 1 1 1\n", api.MaxLadderText/8), 0, api.ErrLarge},
	} {
		l, line, f := ladder.Read(c.text)
		isNot(t, "Read "+what, l, f, c.want)
		if line != c.line {
			t.Error("Read", what, "line", line, "not", c.line)
		}
	}
}

// What can be read is just what Text writes.
func TestManyTexts(t *testing.T) {
	r := rand.New(rand.NewSource(10))
	faults := map[api.Fault]int{}
	for range 20000 {
		want := draw(r, 4)
		text, f := ladder.Text(want)
		isWhole(t, "Text", text, f)
		b := []byte(text)
		for range r.Intn(3) {
			if i := r.Intn(len(b) + 1); i < len(b) {
				b[i] = " \n01ar"[r.Intn(6)]
			}
		}
		l, line, f := ladder.Read(string(b))
		faults[f]++
		if string(b) == text {
			is(t, "Read", l, f, want)
		}
		if f != api.OK {
			isNot(t, "Read", l, f, f)
			if (line > 0) != (f == api.ErrSyntax) {
				t.Error("Read", string(b), line, f)
			}
			continue
		}
		again, f := ladder.Text(l)
		is(t, "Text", again, f, string(b))
	}
	for _, f := range []api.Fault{api.OK, api.ErrSyntax, api.ErrName, api.ErrOrder, api.ErrRange, api.ErrTwice} {
		if faults[f] < 20 {
			t.Error("too few with fault", f, faults)
		}
	}
}
