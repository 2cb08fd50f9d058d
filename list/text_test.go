package list_test

import (
	"fmt"
	"math/rand"
	"regexp"
	"strings"
	"testing"

	"headend/api"
	"headend/list"
	"headend/tick"
)

const allText = "#LIST\n#TARGET 6\n#FIRST 5\n#BREAKS 3\n" +
	"#X\n#X-NOTE 1\n#BREAK\n#DATE 1970-01-01T00:00:05.000Z\n#KEY k1\n#TIME 4.000\na\n" +
	"#GAP\n#TIME 6.000\nb\n" +
	"#X 3\n#KEY -\n#TIME 6.499\nc\n" +
	"#BREAK\n#KEY k2\n#TIME 0.001\nd\n"

const noneText = "#LIST\n#TARGET 6\n#FIRST 7\n#BREAKS 2\n"

// texts are lists, and what Text writes of them.
func texts() map[string]api.List {
	keys := func(names ...string) api.List {
		l := listOf(0)
		for _, name := range names {
			l.Entries = append(l.Entries, api.Entry{Uri: "u", Milli: 1500, Date: -1, Key: name})
		}
		return l
	}
	const head, entry = "#LIST\n#TARGET 3600\n#FIRST 0\n#BREAKS 0\n", "#TIME 1.500\nu\n"
	longest := fmt.Sprint("#LIST\n#TARGET 3600\n#FIRST ", maxFirst, "\n#BREAKS ", api.MaxTime, "\n")
	longest += "#BREAK\n#DATE 9999-12-31T23:59:59.999Z\n#GAP\n#TIME 3600.000\nu\n#END\n"
	return map[string]api.List{
		allText:             all(),
		allText + "#END\n":  changed(all(), func(l *api.List) { l.Ended = true }),
		noneText:            none(),
		noneText + "#END\n": changed(none(), func(l *api.List) { l.Ended = true }),
		"#LIST\n#TARGET 1\n#FIRST 0\n#BREAKS 0\n": {Target: 1},
		longest: {Target: api.MaxTarget, First: maxFirst, Breaks: api.MaxTime, Ended: true, Entries: []api.Entry{{Uri: "u", Milli: api.MaxMillis, Break: true, Date: api.MaxMilli, Gap: true}}},
		// a Key that changes, goes away or stays
		head + entry + entry: keys("", ""),
		head + "#KEY a\n" + entry + entry + "#KEY -\n" + entry + entry + "#KEY a\n" + entry: keys("a", "a", "", "", "a"),
		head + entry + "#KEY b\n" + entry + "#KEY a\n" + entry + "#KEY b\n" + entry + entry: keys("", "b", "a", "b", "b"),
	}
}

func TestText(t *testing.T) {
	for want, l := range texts() {
		text, f := list.Text(l)
		is(t, "Text", text, f, want)
		got, line, f := list.Read(want)
		is(t, "Read", got, f, l)
		is(t, "Read", line, f, 0)
	}
	for _, c := range []struct {
		milli int
		want  string
	}{{1, "0.001"}, {10, "0.010"}, {100, "0.100"}, {999, "0.999"}, {1000, "1.000"}, {12340, "12.340"}, {3599999, "3599.999"}} {
		text, f := list.Text(listOf(0, c.milli))
		is(t, "Text", text, f, "#LIST\n#TARGET 3600\n#FIRST 0\n#BREAKS 0\n#TIME "+c.want+"\ns0\n")
	}
	text, f := list.Text(bad())
	isNot(t, "Text", text, f, api.ErrForm)
}

// long returns a list whose text has MaxListText bytes, and more more.
func long(more int) api.List {
	l := many(api.MaxEntries)
	for i := range l.Entries {
		l.Entries[i].Uri = strings.Repeat("u", api.MaxUri)
		l.Entries[i].Extra = []string{"#X" + strings.Repeat("x", api.MaxLine-12)}
	}
	at := len("#LIST\n#TARGET 3600\n#FIRST 0\n#BREAKS 0\n")
	each := api.MaxLine - 10 + 1 + len("#TIME 1.000\n") + api.MaxUri + 1
	less := at + each*api.MaxEntries - api.MaxListText - more
	for i := range l.Entries {
		cut := min(less, api.MaxLine-12)
		l.Entries[i].Extra[0] = l.Entries[i].Extra[0][:api.MaxLine-10-cut]
		less -= cut
	}
	return l
}

func TestLongTexts(t *testing.T) {
	text, f := list.Text(long(0))
	if f != api.OK || len(text) != api.MaxListText {
		t.Error("Text", len(text), f)
	}
	l, line, f := list.Read(text)
	is(t, "Read", l, f, long(0))
	is(t, "Read", line, f, 0)
	text, f = list.Text(long(1))
	isNot(t, "Text", text, f, api.ErrLarge)
	text, f = list.Text(edited(long(1), 999, func(e *api.Entry) { e.Milli = 0 }))
	isNot(t, "Text", text, f, api.ErrRange)
	for text, want := range map[string]struct {
		line  int
		fault api.Fault
	}{
		strings.Repeat("\n", api.MaxListText+1):                                    {0, api.ErrLarge},
		noneText + strings.Repeat("u", api.MaxListText):                            {0, api.ErrLarge},
		strings.Repeat("\n", api.MaxListText):                                      {1, api.ErrSyntax},
		noneText + strings.Repeat("u", api.MaxListText-len(noneText)):              {5, api.ErrSyntax},
		noneText + "#TIME 1.000\n" + strings.Repeat("u", api.MaxListText/2) + "\n": {0, api.ErrForm},
	} {
		l, line, f := list.Read(text)
		isNot(t, "Read", l, f, want.fault)
		if line != want.line {
			t.Errorf("Read of %.30q: line %d, want %d", text, line, want.line)
		}
	}
}

// Of texts with something wrong the first line that is wrong is told.
func TestReadSyntax(t *testing.T) {
	const head, good = "#LIST\n#TARGET 6\n#FIRST 5\n#BREAKS 1\n", "#TIME 6.000\na\n"
	const entry = "#X\n#BREAK\n#DATE 1970-01-01T00:00:05.000Z\n#KEY k\n#GAP\n#TIME 6.000\na\n" // lines 5 to 11
	without := func(line string) string { return head + strings.Replace(entry, line, "", 1) }
	for text, line := range map[string]int{
		// the lines of the numbers
		"": 1, "\n": 1, "#LIST": 1, "#list\n": 1, "#LIST \n": 1, " #LIST\n": 1, "#LIST\r\n": 1, "#MASTER\n": 1, "#LIST\x00": 1,
		"#LIST\n": 2, "#LIST\n#TARGET 6": 2, "#LIST\n#FIRST 6\n#TARGET 6\n#BREAKS 1\n": 2, "#LIST\n\n#TARGET 6\n": 2, "#LIST\n#LIST\n": 2,
		"#LIST\n#TARGET\n": 2, "#LIST\n#TARGET \n": 2, "#LIST\n#TARGET  6\n": 2, "#LIST\n#TARGET 6 \n": 2, "#LIST\n#TARGET6\n": 2, "#LIST\n#TARGET 6 7\n": 2,
		"#LIST\n#TARGET 06\n": 2, "#LIST\n#TARGET 00\n": 2, "#LIST\n#TARGET +6\n": 2, "#LIST\n#TARGET -6\n": 2, "#LIST\n#TARGET -0\n": 2, "#LIST\n#TARGET 6.0\n": 2, "#LIST\n#TARGET 0x6\n": 2, "#LIST\n#TARGET 1_0\n": 2, "#LIST\n#TARGET six\n": 2, "#LIST\n#TARGET ٣\n": 2,
		"#LIST\n#TARGET 12345678901234567\n": 2, "#LIST\n#TARGET 99999999999999999999999\n": 2, "#LIST\n#TARGET\t6\n": 2, "#LIST\n#target 6\n": 2,
		"#LIST\n#TARGET 6\n": 3, "#LIST\n#TARGET 6\n#FIRST 5": 3, "#LIST\n#TARGET 6\n#FIRST 05\n#BREAKS 1\n": 3, "#LIST\n#TARGET 6\n#BREAKS 1\n#FIRST 5\n": 3, "#LIST\n#TARGET 6\n#BREAKS 1\n": 3,
		"#LIST\n#TARGET 6\n#FIRST 5\n": 4, "#LIST\n#TARGET 6\n#FIRST 5\n#BREAKS 1": 4, "#LIST\n#TARGET 6\n#FIRST 5\n#BREAKS 01\n": 4, "#LIST\n#TARGET 6\n#FIRST 5\n#BREAKS -1\n": 4, "#LIST\n#TARGET 6\n#FIRST 5\n#BREAK 1\n": 4, "#LIST\n#TARGET 6\n#FIRST 5\n#FIRST 5\n#BREAKS 1\n": 4,
		"#LIST\n#TARGET 6\n#FIRST 5\n#TIME 6.000\na\n": 4, "#LIST\n#TARGET 6\n#FIRST 5\n#END\n": 4,
		head + "#BREAKS 1\n": 5, head + "#SKIP 0\n": 5, head + "\n": 5, head + "x\n": 5, head + "#Y\n": 5, head + "#\n": 5,
		// something is missing at the end
		head + "#X": 5, head + "#X\n": 6, head + "#BREAK\n": 6, head + "#GAP\n": 6, head + "#KEY k\n": 6, head + "#TIME 6.000\n": 6, head + "#TIME 6.000": 5, head + "#TIME 6.000\na": 6, head + good + "#TIME 6.000\n": 8, head + good + "#X\n#X\n": 9,
		strings.TrimSuffix(head+entry, "\n"): 11, strings.TrimSuffix(head+entry, "a\n"): 11,
		// the end
		head + "#END": 5, head + good + "#END": 7, head + "#END\n\n": 6, head + "#END\n#END\n": 6, head + "#END\n" + good: 6, head + "#END\n#X\n": 6, head + "#END\n\x00": 6, head + "#END \n": 5, head + "#END 1\n": 5, head + "#end\n": 5,
		head + "#X\n#END\n": 6, head + "#BREAK\n#END\n": 6, head + "#KEY k\n#END\n": 6, head + "#TIME 6.000\n#END\n": 6, head + good + "#GAP\n#END\n" + good: 8,
		// a line too few
		without("#TIME 6.000\n"): 10, without("a\n"): 11, without("a\n") + good: 11,
		// a line too many
		head + "#BREAK\n#BREAK\n" + good: 6, head + "#GAP\n#GAP\n" + good: 6, head + "#KEY k\n#KEY l\n" + good: 6, head + "#KEY k\n#KEY k\n" + good: 6, head + "#TIME 6.000\n" + good: 6, head + good + "b\n": 7, head + good + "\n": 7, head + good + "\n" + good: 7,
		head + "#DATE 1970-01-01T00:00:05.000Z\n" + entry: 6,
		// lines out of their order
		head + "#BREAK\n#X\n" + good: 6, head + "#DATE 1970-01-01T00:00:05.000Z\n#X\n" + good: 6, head + "#DATE 1970-01-01T00:00:05.000Z\n#BREAK\n" + good: 6, head + "#KEY k\n#DATE 1970-01-01T00:00:05.000Z\n" + good: 6, head + "#KEY k\n#BREAK\n" + good: 6, head + "#KEY k\n#X\n" + good: 6, head + "#GAP\n#KEY k\n" + good: 6, head + "#GAP\n#BREAK\n" + good: 6, head + "#GAP\n#X\n" + good: 6, head + "#GAP\n#DATE 1970-01-01T00:00:05.000Z\n" + good: 6,
		head + "#TIME 6.000\n#GAP\na\n": 6, head + "#TIME 6.000\n#X\na\n": 6, head + "#TIME 6.000\n#KEY k\na\n": 6, head + "a\n#TIME 6.000\n": 5,
		// Uris
		head + "#TIME 6.000\n\n": 6, head + "#TIME 6.000\n#\n": 6, head + "#TIME 6.000\n#Xa\n": 6,
		// times
		head + "#TIME\na\n": 5, head + "#TIME \na\n": 5, head + "#TIME 6\na\n": 5, head + "#TIME 6.\na\n": 5, head + "#TIME 6.0\na\n": 5, head + "#TIME 6.00\na\n": 5, head + "#TIME 6.0000\na\n": 5, head + "#TIME 06.000\na\n": 5, head + "#TIME 00.001\na\n": 5, head + "#TIME .001\na\n": 5, head + "#TIME -6.000\na\n": 5, head + "#TIME -0.000\na\n": 5, head + "#TIME +6.000\na\n": 5, head + "#TIME 6,000\na\n": 5, head + "#TIME 6.-12\na\n": 5, head + "#TIME 6.+12\na\n": 5, head + "#TIME 6.0x1\na\n": 5, head + "#TIME 6.0 0\na\n": 5, head + "#TIME 6.000 \na\n": 5, head + "#TIME  6.000\na\n": 5, head + "#TIME 6.000.000\na\n": 5, head + "#TIME 12345678901234567.000\na\n": 5, head + "#TIME 6.1.0\na\n": 5, head + "#TIME 6e0.000\na\n": 5, head + "#TIME 6.000\r\na\n": 5,
		// dates
		head + "#DATE\n" + good: 5, head + "#DATE \n" + good: 5, head + "#DATE -1\n" + good: 5, head + "#DATE 1970-02-30T00:00:05.000Z\n" + good: 5, head + "#DATE 1969-12-31T23:59:59.999Z\n" + good: 5, head + "#DATE 1970-01-01T00:00:05Z\n" + good: 5, head + "#DATE 1970-01-01T24:00:00.000Z\n" + good: 5, head + "#DATE 1970-01-01T00:00:05.000z\n" + good: 5, head + "#DATE  1970-01-01T00:00:05.000Z\n" + good: 5, head + "#DATE 1970-01-01T00:00:05.000Z \n" + good: 5,
		// keys
		head + "#KEY -\n" + good: 5, head + "#KEY k\n" + good + "#KEY k\n" + good: 8, head + "#KEY k\n" + good + "#KEY -\n" + good + "#KEY -\n" + good: 11, head + "#KEY k\n" + good + good + "#KEY k\n" + good: 10, head + "#KEY\n" + good: 5, head + "#KEY \n" + good: 5, head + "#KEY  k\n" + good: 5, head + "#KEY k \n" + good: 5, head + "#KEY k k\n" + good: 5, head + "#KEY k\x00\n" + good: 5, head + "#KEY k\x7f\n" + good: 5, head + "#KEY ä\n" + good: 5, head + "#KEY\tk\n" + good: 5, head + "#KEYk\n" + good: 5,
		// marks
		head + "#BREAK \n" + good: 5, head + "#BREAK 1\n" + good: 5, head + "#break\n" + good: 5, head + "#GAP \n" + good: 5, head + "#GAPS\n" + good: 5, head + "#x\n" + good: 5, head + " #X\n" + good: 5,
		// the first one of two
		"#LIST\n#TARGET x\n#FIRST x\n": 2, head + "#TIME 6.0\na\n#TIME 6.0\na\n": 5, head + good + "#KEY -\n#TIME x\n": 7,
		// syntax before all that Check says
		"#LIST\n#TARGET 0\n#FIRST 5\n#BREAKS 1\nx\n": 5, head + "#KEY K\n#TIME 0.000\na b\nx": 8,
	} {
		l, got, f := list.Read(text)
		isNot(t, fmt.Sprintf("Read %q", text), l, f, api.ErrSyntax)
		if got != line {
			t.Errorf("Read %q: line %d, want %d", text, got, line)
		}
	}
}

// What can be read is then checked.
func TestReadCheck(t *testing.T) {
	const head, good = "#LIST\n#TARGET 6\n#FIRST 5\n#BREAKS 1\n", "#TIME 6.000\na\n"
	for text, want := range map[string]api.Fault{
		"#LIST\n#TARGET 0\n#FIRST 5\n#BREAKS 1\n":                  api.ErrRange,
		"#LIST\n#TARGET 3601\n#FIRST 5\n#BREAKS 1\n":               api.ErrRange,
		"#LIST\n#TARGET 9999999999999999\n#FIRST 5\n#BREAKS 1\n":   api.ErrRange,
		"#LIST\n#TARGET 6\n#FIRST 9999999999999999\n#BREAKS 1\n":   api.ErrRange,
		"#LIST\n#TARGET 6\n#FIRST 999999999999001\n#BREAKS 1\n":    api.ErrRange,
		"#LIST\n#TARGET 6\n#FIRST 5\n#BREAKS 1000000000000001\n":   api.ErrRange,
		"#LIST\n#TARGET 6\n#FIRST 5\n#BREAKS 9999999999999999\n":   api.ErrRange,
		head + strings.Repeat(good, api.MaxEntries+1):              api.ErrLarge,
		head + "#TIME 0.000\na\n":                                  api.ErrRange,
		head + "#TIME 3600.001\na\n":                               api.ErrRange,
		head + "#TIME 3600000.000\na\n":                            api.ErrRange,
		head + "#TIME 9223372036854775.807\na\n":                   api.ErrRange,
		head + "#TIME 9223372036854775.808\na\n":                   api.ErrRange,
		head + "#TIME 9999999999999999.999\na\n":                   api.ErrRange,
		head + "#TIME 9999999999999999.000\na\n":                   api.ErrRange,
		head + "#TIME 6.500\na\n":                                  api.ErrLarge,
		head + "#TIME 3600.000\na\n":                               api.ErrLarge,
		head + "#KEY K\n" + good:                                   api.ErrName,
		head + "#KEY --\n" + good:                                  api.ErrName,
		head + "#KEY #\n" + good:                                   api.ErrName,
		head + "#KEY " + strings.Repeat("k", 100) + "\n" + good:    api.ErrName,
		head + "#TIME 6.000\na b\n":                                api.ErrForm,
		head + "#TIME 6.000\n\x00\n":                               api.ErrForm,
		head + "#TIME 6.000\na\r\n":                                api.ErrForm,
		head + "#TIME 6.000\n #\n":                                 api.ErrForm,
		head + "#TIME 6.000\n" + strings.Repeat("u", 201) + "\n":   api.ErrForm,
		head + "#X\x00\n" + good:                                   api.ErrForm,
		head + "#X\r\n" + good:                                     api.ErrForm,
		head + "#Xä\n" + good:                                      api.ErrForm,
		head + "#X" + strings.Repeat("x", 299) + "\n" + good:       api.ErrLarge,
		head + strings.Repeat("#X\n", 21) + good:                   api.ErrLarge,
		head + strings.Repeat("#X\n", 21) + "#TIME 0.000\na\n":     api.ErrRange,
		head + "#KEY K\n#TIME 6.000\na\n#KEY -\n#TIME 0.000\na\n":  api.ErrName,
		head + "#KEY k\n" + good + good + "#KEY K\n" + good + good: api.ErrName,
	} {
		l, line, f := list.Read(text)
		isNot(t, fmt.Sprintf("Read %.80q", text), l, f, want)
		if line != 0 {
			t.Errorf("Read %.80q: line %d", text, line)
		}
	}
}

// A reading of texts by the shape that their lines have together: each line is one letter.
var (
	lineForms = []struct {
		letter string
		form   *regexp.Regexp
	}{
		{"L", regexp.MustCompile(`^#LIST$`)},
		{"T", regexp.MustCompile(`^#TARGET (0|[1-9]\d{0,15})$`)},
		{"F", regexp.MustCompile(`^#FIRST (0|[1-9]\d{0,15})$`)},
		{"B", regexp.MustCompile(`^#BREAKS (0|[1-9]\d{0,15})$`)},
		{"S", regexp.MustCompile(`^#SKIP (0|[1-9]\d{0,15})$`)},
		{"x", regexp.MustCompile(`^#X`)},
		{"b", regexp.MustCompile(`^#BREAK$`)},
		{"d", regexp.MustCompile(`^#DATE .{24}$`)},
		{"k", regexp.MustCompile(`^#KEY [!-~]+$`)},
		{"g", regexp.MustCompile(`^#GAP$`)},
		{"t", regexp.MustCompile(`^#TIME (0|[1-9]\d{0,15})\.\d{3}$`)},
		{"e", regexp.MustCompile(`^#END$`)},
		{"u", regexp.MustCompile(`^[^#]`)},
	}
	listShape  = regexp.MustCompile(`^LTFB(x*b?d?k?g?tu)*e?$`)
	deltaShape = regexp.MustCompile(`^LTFBS(x*b?d?k?g?tu)*e?$`)
)

// letterOf returns the letter of a line, and the key that there is behind it.
func letterOf(line, key string) (string, string) {
	for _, c := range lineForms {
		if !c.form.MatchString(line) {
			continue
		}
		if c.letter == "d" {
			if _, f := tick.ReadDate(strings.TrimPrefix(line, "#DATE ")); f != api.OK {
				return "?", key
			}
		}
		if c.letter == "k" {
			name := strings.TrimPrefix(line, "#KEY ")
			if name == key {
				return "?", key
			}
			key = name
		}
		return c.letter, key
	}
	return "?", key
}

// wrongLine returns the number of the first line of a text that is wrong, or 0.
func wrongLine(text string, shape *regexp.Regexp, ends ...string) int {
	lines := strings.SplitAfter(text, "\n")
	letters, key := "", "-"
	canBe := func() bool {
		for _, end := range ends {
			if shape.MatchString(letters + end) {
				return true
			}
		}
		return false
	}
	for i, line := range lines {
		if line == "" { // behind the last one
			break
		}
		letter := "?"
		if strings.HasSuffix(line, "\n") {
			letter, key = letterOf(strings.TrimSuffix(line, "\n"), key)
		}
		letters += letter
		if !canBe() {
			return i + 1
		}
	}
	if !shape.MatchString(letters) {
		return len(letters) + 1
	}
	return 0
}

// listEnds are how a text can go on, so that it is one of a list.
var listEnds = []string{"", "u", "tu", "B", "FB", "TFB", "LTFB", "S", "BS", "FBS", "TFBS", "LTFBS"}

// mutated returns a text of which a few lines are otherwise.
func mutated(r *rand.Rand, text string) string {
	lines := strings.SplitAfter(text, "\n")
	for range 1 + r.Intn(2) {
		i, k := r.Intn(len(lines)), r.Intn(len(lines))
		switch r.Intn(9) {
		case 0:
			lines[i], lines[k] = lines[k], lines[i]
		case 1:
			lines[i] = ""
		case 2:
			lines[i] += lines[k]
		case 3:
			lines[i] = strings.TrimSuffix(lines[i], "\n")
		case 4:
			b := []byte(lines[i])
			if len(b) > 0 {
				b[r.Intn(len(b))] = "\n 0159.#-XkaZ\x00\xff"[r.Intn(15)]
			}
			lines[i] = string(b)
		case 5:
			lines[i] += []string{"#X\n", "#BREAK\n", "#DATE 1970-01-01T00:00:00.150Z\n", "#KEY k1\n", "#KEY -\n", "#GAP\n", "#TIME 1.000\n", "u\n", "#END\n", "\n"}[r.Intn(10)]
		case 6:
			cut := r.Intn(len(lines[i]) + 1)
			lines[i] = lines[i][:cut]
		case 7:
			lines[i] = strings.Replace(lines[i], " ", " 0", 1)
		case 8:
			lines[i] = strings.Replace(lines[i], " 0.00", []string{" 9.00", " 4000.00", " 0.0"}[r.Intn(3)], 1)
		}
	}
	return strings.Join(lines, "")
}

// manyTexts writes what is drawn, changes most of the texts, and expects that just what is written so can be read, and that the first line that is wrong is told. It returns how often there was which fault.
func manyTexts[V any](t *testing.T, r *rand.Rand, draw func() V, write func(v V) (string, api.Fault), read func(text string) (V, int, api.Fault), wrongLine func(text string) int) map[api.Fault]int {
	t.Helper()
	faults := map[api.Fault]int{}
	for range 20000 {
		want := draw()
		good, f := write(want)
		isFault(t, "writing", f, api.OK)
		text := good
		if r.Intn(8) > 0 {
			text = mutated(r, good)
		}
		got, line, f := read(text)
		faults[f]++
		if text == good {
			is(t, "reading", got, f, want)
		}
		isWhole(t, "reading", got, f)
		if wrong := wrongLine(text); line != wrong || (f == api.ErrSyntax) != (wrong > 0) {
			t.Fatalf("reading %q: line %d with fault %d, want line %d", text, line, f, wrong)
		}
		if f == api.OK {
			again, f := write(got)
			is(t, "writing again", again, f, text)
		}
	}
	return faults
}

func TestManyTexts(t *testing.T) {
	r := rand.New(rand.NewSource(6))
	faults := manyTexts(t, r, func() api.List { return draw(r, 4) }, list.Text, list.Read, func(text string) int {
		return wrongLine(text, listShape, listEnds...)
	})
	for _, f := range []api.Fault{api.OK, api.ErrSyntax, api.ErrName, api.ErrForm, api.ErrRange, api.ErrLarge} {
		if faults[f] < 10 {
			t.Error("too few with fault", f, faults)
		}
	}
}
