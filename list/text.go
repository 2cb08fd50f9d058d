package list

import (
	"cmp"
	"slices"
	"strconv"
	"strings"

	"headend/api"
	"headend/check"
	"headend/lines"
	"headend/tick"
)

// Heads of the lines of texts.
const (
	headList    = "#LIST"
	headTarget  = "#TARGET"
	headFirst   = "#FIRST"
	headBreaks  = "#BREAKS"
	headSkip    = "#SKIP"
	headFurther = "#X"
	headBreak   = "#BREAK"
	headDate    = "#DATE"
	headKey     = "#KEY"
	headGap     = "#GAP"
	headTime    = "#TIME"
	headEnd     = "#END"
)

const (
	nothing    = "-" // stands for an empty word
	maxDigits  = 16  // of a number
	timePlaces = 3   // behind the point of a time
)

// putter writes a line of words.
type putter func(words ...string)

// textOf returns the lines that write puts, if these are not too long.
func textOf(write func(put putter)) (string, api.Fault) {
	var text strings.Builder
	write(func(words ...string) {
		text.WriteString(strings.Join(words, lines.Blank) + lines.End)
	})
	if text.Len() > api.MaxListText {
		return "", api.ErrLarge
	}
	return text.String(), api.OK
}

// Text writes a list.
func Text(l api.List) (string, api.Fault) { return listText(l) }

// listText writes a list with a line of further words behind its numbers, if there are any.
func listText(l api.List, words ...string) (string, api.Fault) {
	if fault := Check(l); fault != api.OK {
		return "", fault
	}
	return textOf(func(put putter) {
		put(headList)
		put(headTarget, strconv.Itoa(l.Target))
		put(headFirst, strconv.Itoa(l.First))
		put(headBreaks, strconv.Itoa(l.Breaks))
		if len(words) > 0 {
			put(words...)
		}
		key := ""
		for _, e := range l.Entries {
			putEntry(put, e, key)
			key = e.Key
		}
		if l.Ended {
			put(headEnd)
		}
	})
}

// putEntry writes an entry; key is that of the one before it.
func putEntry(put putter, e api.Entry, key string) {
	date, dateFault := tick.Date(e.Date)
	time, _ := tick.Decimal(e.Milli, second, timePlaces)
	for _, x := range e.Extra {
		put(x)
	}
	if e.Break {
		put(headBreak)
	}
	if dateFault == api.OK {
		put(headDate, date)
	}
	if e.Key != key {
		put(headKey, cmp.Or(e.Key, nothing))
	}
	if e.Gap {
		put(headGap)
	}
	put(headTime, time)
	put(e.Uri)
}

// Read returns the list of a text, or the number of the first line that is wrong.
func Read(text string) (api.List, int, api.Fault) { return readList(text) }

// readList reads a list with lines of further forms behind its numbers.
func readList(text string, forms ...lines.Form) (api.List, int, api.Fault) {
	if len(text) > api.MaxListText {
		return api.List{}, 0, api.ErrLarge
	}
	var l api.List
	r := lines.Of(text)
	if !takeList(r, &l, forms) {
		return api.List{}, r.Line(), api.ErrSyntax
	}
	if fault := Check(l); fault != api.OK {
		return api.List{}, 0, fault
	}
	return l, 0, api.OK
}

// takeList takes the lines of a list, or those before the first one that is wrong.
func takeList(r *lines.Reader, l *api.List, forms []lines.Form) bool {
	heads := []lines.Form{
		alone(headList),
		number(headTarget, &l.Target),
		number(headFirst, &l.First),
		number(headBreaks, &l.Breaks),
	}
	for _, form := range slices.Concat(heads, forms) {
		if !r.Take(form) {
			return false
		}
	}
	e := api.Entry{}
	for r.Left() && !r.Take(mark(headEnd, &l.Ended)) {
		e = api.Entry{Date: noDate, Key: e.Key}
		if !takeEntry(r, &e) {
			return false
		}
		l.Entries = append(l.Entries, e)
	}
	return !r.Left()
}

// takeEntry takes the lines of an entry, which has the Key of the one before it. Lines that it need not have are left, if they are wrong, to the next one that it must have.
func takeEntry(r *lines.Reader, e *api.Entry) bool {
	for r.Take(further(&e.Extra)) {
	}
	r.Take(mark(headBreak, &e.Break))
	r.Take(date(&e.Date))
	r.Take(otherKey(&e.Key))
	r.Take(mark(headGap, &e.Gap))
	return r.Take(time(&e.Milli)) && r.Take(uri(&e.Uri))
}

// alone is the form of a line that is a head alone.
func alone(head string) lines.Form {
	return func(line string) bool { return line == head }
}

// mark is the form of a line that is a head alone, which says that something is set.
func mark(head string, isSet *bool) lines.Form {
	return func(line string) bool {
		*isSet = line == head
		return *isSet
	}
}

// after is the form of a line that has a head, a blank, and what read takes.
func after(head string, read func(rest string) bool) lines.Form {
	return func(line string) bool {
		rest, hasHead := strings.CutPrefix(line, head+lines.Blank)
		return hasHead && read(rest)
	}
}

func number(head string, n *int) lines.Form {
	return after(head, func(rest string) bool { return lines.Numbers([]string{rest}, maxDigits, n) })
}

func isFurther(line string) bool { return strings.HasPrefix(line, headFurther) }

// What is kept of a line is a copy: as part of the text it would keep all of it.

func further(extra *[]string) lines.Form {
	return func(line string) bool {
		if !isFurther(line) {
			return false
		}
		*extra = append(*extra, strings.Clone(line))
		return true
	}
}

func date(milli *int) lines.Form {
	return after(headDate, func(rest string) bool {
		n, fault := tick.ReadDate(rest)
		if fault != api.OK {
			return false
		}
		*milli = n
		return true
	})
}

// otherKey is the form of a line with another key than the one that there is.
func otherKey(key *string) lines.Form {
	return after(headKey, func(word string) bool {
		name := meant(word)
		if !check.IsWord(word) || name == *key {
			return false
		}
		*key = strings.Clone(name)
		return true
	})
}

// meant returns the text for which a word stands.
func meant(word string) string {
	if word == nothing {
		return ""
	}
	return word
}

func time(milli *int) lines.Form {
	return after(headTime, func(rest string) bool {
		whole, part, _ := strings.Cut(rest, ".")
		seconds, isNumber := lines.Number(whole, maxDigits)
		millis, fault := tick.ReadDecimal("0."+part, second, api.Down)
		if !isNumber || len(part) != timePlaces || fault != api.OK {
			return false
		}
		*milli = min(seconds, api.MaxMillis)*second + millis // so many seconds are too many, and more could be too large a number
		return true
	})
}

func uri(text *string) lines.Form {
	return func(line string) bool {
		if line == "" || line[0] == '#' {
			return false
		}
		*text = strings.Clone(line)
		return true
	}
}
