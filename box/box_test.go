package box_test

import (
	"math/rand"
	"slices"
	"strings"
	"testing"

	"headend/api"
	"headend/box"
)

func leaf(kind string, form int, data ...byte) api.Box {
	return api.Box{Kind: kind, Form: form, Data: data}
}

func node(kind string, form int, kids ...api.Box) api.Box {
	return api.Box{Kind: kind, Form: form, Kids: kids}
}

// nested returns a box within so many others.
func nested(inner api.Box, others int) api.Box {
	for range others {
		inner = node("film", api.FormShort, inner)
	}
	return inner
}

// row returns so many boxes without contents.
func row(many int) []api.Box {
	return slices.Repeat([]api.Box{{Kind: "free"}}, many)
}

// files are boxes, and the bytes that they are.
var files = map[string]struct {
	l []api.Box
	b []byte
}{
	"nothing":        {nil, nil},
	"one":            {[]api.Box{leaf("abcd", api.FormShort, 7)}, []byte{0, 0, 0, 9, 97, 98, 99, 100, 7}},
	"no contents":    {[]api.Box{leaf("0a9z", api.FormShort)}, joined(int32(8), "0a9z")},
	"long":           {[]api.Box{leaf("data", api.FormLong, 1, 2)}, joined(int32(1), "data", int64(18), 1, 2)},
	"long and empty": {[]api.Box{leaf("data", api.FormLong)}, joined(int32(1), "data", int64(16))},
	"open":           {[]api.Box{leaf("data", api.FormOpen, 1, 2)}, joined(int32(0), "data", 1, 2)},
	"open and empty": {[]api.Box{leaf("data", api.FormOpen)}, joined(int32(0), "data")},
	"no kids":        {[]api.Box{node("film", api.FormShort), node("trck", api.FormLong), node("frag", api.FormOpen)}, joined(int32(8), "film", int32(1), "trck", int64(16), int32(0), "frag")},
	"kids": {
		[]api.Box{node("film", api.FormShort, leaf("head", api.FormLong, 5), node("trck", api.FormShort, leaf("name", api.FormShort, 6))), leaf("data", api.FormShort, 7)},
		joined(int32(42), "film", int32(1), "head", int64(17), 5, int32(17), "trck", int32(9), "name", 6, int32(9), "data", 7),
	},
	"open within open": {
		[]api.Box{leaf("free", api.FormShort), node("frag", api.FormOpen, leaf("abcd", api.FormShort, 1), leaf("efgh", api.FormOpen, 2, 3))},
		joined(int32(8), "free", int32(0), "frag", int32(9), "abcd", 1, int32(0), "efgh", 2, 3),
	},
	"open within short": {
		[]api.Box{node("trck", api.FormShort, leaf("efgh", api.FormOpen, 2, 3)), leaf("free", api.FormShort, 4)},
		joined(int32(18), "trck", int32(0), "efgh", 2, 3, int32(9), "free", 4),
	},
	"like a box, but bytes": {[]api.Box{leaf("filn", api.FormShort, 0, 0, 0, 8, 'f', 'i', 'l', 'm')}, joined(int32(16), "filn", int32(8), "film")},
	"as deep as may be":     {[]api.Box{nested(leaf("free", api.FormShort, 1), 7)}, deep(7, joined(int32(9), "free", 1))},
}

// deep returns the bytes of a box within so many others.
func deep(others int, b []byte) []byte {
	for range others {
		b = joined(int32(len(b)+8), "film", b)
	}
	return b
}

func TestParseAndPack(t *testing.T) {
	for what, c := range files {
		b, f := box.Pack(c.l)
		is(t, "Pack "+what, b, f, c.b)
		l, place, f := box.Parse(c.b)
		is(t, "Parse "+what, l, f, c.l)
		if place != 0 {
			t.Error("Parse", what, place)
		}
	}
}

func TestParseFaults(t *testing.T) {
	good := joined(int32(9), "abcd", 1)
	for what, c := range map[string]struct {
		b     []byte
		place int
	}{
		"one byte":                   {joined(0), 0},
		"seven bytes":                {joined(int32(8), "abc"), 0},
		"seven bytes, open":          {joined(int32(0), "abc"), 0},
		"size 2":                     {joined(int32(2), "abcd"), 0},
		"size 7":                     {joined(int32(7), "abcd"), 0},
		"beyond the end":             {joined(int32(10), "abcd", 1), 0},
		"far beyond the end":         {joined(uint32(1<<32-1), "abcd", 1), 0},
		"no kind: A":                 {joined(int32(8), "abcA"), 0},
		"no kind: -":                 {joined(int32(8), "-bcd"), 0},
		"no kind: before 0":          {joined(int32(8), "a/cd"), 0},
		"no kind: behind 9":          {joined(int32(8), "a:cd"), 0},
		"no kind: before a":          {joined(int32(8), "ab`d"), 0},
		"no kind: behind z":          {joined(int32(8), "ab{d"), 0},
		"no kind: 255":               {joined(int32(8), "abc\xff"), 0},
		"no kind, and open":          {joined(int32(0), "abc\x00"), 0},
		"no kind, and long":          {joined(int32(1), "ABCD", int64(16)), 0},
		"long head that ends":        {joined(int32(1), "abcd"), 0},
		"long head of 15":            {joined(int32(1), "abcd", make([]byte, 7)), 0},
		"long size 0":                {joined(int32(1), "abcd", int64(0)), 0},
		"long size 1":                {joined(int32(1), "abcd", int64(1)), 0},
		"long size 15":               {joined(int32(1), "abcd", int64(15)), 0},
		"long beyond the end":        {joined(int32(1), "abcd", int64(17)), 0},
		"long far beyond the end":    {joined(int32(1), "abcd", int64(1<<32+16)), 0},
		"long with the first bit":    {joined(int32(1), "abcd", uint64(1<<63+16)), 0},
		"long with all bits":         {joined(int32(1), "abcd", uint64(1<<64-1)), 0},
		"second box":                 {joined(good, int32(20), "aaaa"), 9},
		"second box of three":        {joined(good, int32(2), "aaaa", good), 9},
		"bytes behind":               {joined(good, 0), 9},
		"kid":                        {joined(int32(17), "film", int32(7), "abcd", 1), 8},
		"second kid":                 {joined(int32(25), "trck", good, int32(8), "abcD"), 17},
		"kid beyond its box":         {joined(int32(16), "frag", int32(9), "abcd", 1, 2), 8},
		"head of a kid that ends":    {joined(int32(12), "film", int32(8), "free"), 8},
		"long head of a kid":         {joined(int32(16), "film", int32(1), "free", int64(16)), 8},
		"kid, and a later one":       {joined(int32(17), "film", int32(7), "abcd", 1, int32(7), "aaaa"), 8},
		"box before its kid":         {joined(int32(90), "film", int32(7), "abcd"), 0},
		"kid of a kid":               {joined(int32(25), "film", int32(17), "trck", int32(5), "abcd", 1), 16},
		"later, as the first is one": {joined(int32(8), "film", int32(8), "ABCD"), 8},
	} {
		l, place, f := box.Parse(c.b)
		isAt(t, "Parse "+what, l, place, f, c.place, api.ErrSyntax)
	}
}

func TestParseLimits(t *testing.T) {
	full := joined(int32(api.MaxFile), "data", make([]byte, api.MaxFile-8))
	l, place, f := box.Parse(full)
	is(t, "Parse of all bytes", l, f, []api.Box{leaf("data", api.FormShort, full[8:]...)})
	for _, b := range [][]byte{append(full, 0), make([]byte, api.MaxFile+1)} {
		l, place, f = box.Parse(b)
		isAt(t, "Parse of too many bytes", l, place, f, 0, api.ErrLarge)
	}
	flat, f := box.Pack(row(api.MaxBoxes))
	if f != api.OK {
		t.Fatal("Pack", f)
	}
	l, place, f = box.Parse(flat)
	is(t, "Parse of all boxes", l, f, row(api.MaxBoxes))
	free := joined(int32(8), "free")
	for _, b := range [][]byte{joined(flat, free), joined(flat, 0), joined(flat, int32(8), "FREE"), joined(flat, free, 0)} {
		l, place, f = box.Parse(b)
		isAt(t, "Parse of too many boxes", l, place, f, 8*api.MaxBoxes, api.ErrLarge)
	}
	l, place, f = box.Parse(joined(flat[:len(flat)-8], int32(9), "free"))
	isAt(t, "Parse of a wrong last box", l, place, f, 8*api.MaxBoxes-8, api.ErrSyntax)
	l, place, f = box.Parse(joined(int32(len(flat)), "film", flat[8:])) // kids are counted too
	is(t, "Parse of all boxes", l, f, []api.Box{node("film", api.FormShort, row(api.MaxBoxes-1)...)})
	l, place, f = box.Parse(joined(int32(len(flat)+8), "film", flat))
	isAt(t, "Parse of too many kids", l, place, f, 8*api.MaxBoxes, api.ErrLarge)
	for _, b := range [][]byte{free, {0}} { // too deep comes before all else
		l, place, f = box.Parse(deep(8, b))
		isAt(t, "Parse of too deep a box", l, place, f, 64, api.ErrLarge)
	}
	l, place, f = box.Parse(deep(8, nil)) // nothing is too deep
	is(t, "Parse", l, f, []api.Box{nested(node("film", api.FormShort), 7)})
}

// badBoxes are boxes that cannot be written.
var badBoxes = map[string]struct {
	l    []api.Box
	want api.Fault
}{
	"empty kind":           {[]api.Box{leaf("", api.FormShort)}, api.ErrName},
	"three letters":        {[]api.Box{leaf("abc", api.FormShort)}, api.ErrName},
	"five letters":         {[]api.Box{leaf("abcde", api.FormShort)}, api.ErrName},
	"great letter":         {[]api.Box{leaf("abcD", api.FormShort)}, api.ErrName},
	"letters of two bytes": {[]api.Box{leaf("äö", api.FormShort)}, api.ErrName},
	"form -1":              {[]api.Box{leaf("abcd", -1)}, api.ErrKind},
	"form 3":               {[]api.Box{leaf("abcd", 3)}, api.ErrKind},
	"film with data":       {[]api.Box{leaf("film", api.FormShort, 1)}, api.ErrForm},
	"trck with data":       {[]api.Box{leaf("trck", api.FormShort, 1)}, api.ErrForm},
	"frag with data":       {[]api.Box{leaf("frag", api.FormShort, 1)}, api.ErrForm},
	"both":                 {[]api.Box{{Kind: "film", Data: []byte{1}, Kids: row(1)}}, api.ErrForm},
	"data with kids":       {[]api.Box{node("data", api.FormShort, row(1)...)}, api.ErrForm},
	"data with both":       {[]api.Box{{Kind: "data", Data: []byte{1}, Kids: row(1)}}, api.ErrForm},
	"open, not last":       {[]api.Box{leaf("data", api.FormOpen), leaf("free", api.FormShort)}, api.ErrOrder},
	"open kid, not last":   {[]api.Box{node("film", api.FormOpen, leaf("data", api.FormOpen), leaf("free", api.FormShort))}, api.ErrOrder},
	"kid":                  {[]api.Box{node("film", api.FormShort, leaf("ABCD", api.FormShort))}, api.ErrName},
	"too deep":             {[]api.Box{nested(leaf("free", api.FormShort), 8)}, api.ErrLarge},
	"too many":             {row(api.MaxBoxes + 1), api.ErrLarge},
	"too many kids":        {[]api.Box{node("film", api.FormShort, row(api.MaxBoxes)...)}, api.ErrLarge},
	"too many bytes":       {[]api.Box{leaf("data", api.FormShort, make([]byte, api.MaxFile-7)...)}, api.ErrLarge},
	"too many bytes, long": {[]api.Box{leaf("data", api.FormLong, make([]byte, api.MaxFile-15)...)}, api.ErrLarge},
	"too many bytes, open": {[]api.Box{leaf("data", api.FormOpen, make([]byte, api.MaxFile-7)...)}, api.ErrLarge},
	"too many with kids":   {[]api.Box{node("film", api.FormShort, leaf("data", api.FormShort, make([]byte, api.MaxFile-15)...))}, api.ErrLarge},
	// the first of several faults
	"too deep, then kind":      {[]api.Box{nested(leaf("FREE", 7), 8)}, api.ErrLarge},
	"too many, then kind":      {append(row(api.MaxBoxes), leaf("FREE", 7)), api.ErrLarge},
	"kind, then form":          {[]api.Box{{Kind: "FILM", Form: 3, Data: []byte{1}, Kids: row(1)}}, api.ErrName},
	"form, then contents":      {[]api.Box{leaf("film", 3, 1), {}}, api.ErrKind},
	"contents, then order":     {[]api.Box{leaf("film", api.FormOpen, 1), {}}, api.ErrForm},
	"order, then kids":         {[]api.Box{node("film", api.FormOpen, leaf("ABCD", 0)), {}}, api.ErrOrder},
	"kids, then the next":      {[]api.Box{node("film", api.FormShort, leaf("abcd", 3)), leaf("ABCD", 0)}, api.ErrKind},
	"first, then too many":     {append([]api.Box{{Kind: "abcd", Form: 3}}, row(api.MaxBoxes)...), api.ErrKind},
	"last, then bytes":         {[]api.Box{leaf("data", api.FormShort, make([]byte, api.MaxFile)...), leaf("abcd", 3)}, api.ErrKind},
	"contents, then the bytes": {[]api.Box{leaf("film", api.FormShort, make([]byte, api.MaxFile)...)}, api.ErrForm},
}

func TestPackFaults(t *testing.T) {
	for what, c := range badBoxes {
		b, f := box.Pack(c.l)
		isNot(t, "Pack "+what, b, f, c.want)
		l, f := box.Find(c.l, "free")
		isNot(t, "Find "+what, l, f, c.want)
		l, f = box.Find(c.l, "no/kinds") // the boxes come before the path
		isNot(t, "Find "+what, l, f, c.want)
	}
	round := row(1)
	round[0] = node("film", api.FormShort, round...)
	round[0].Kids = round
	b, f := box.Pack(round) // within itself
	isNot(t, "Pack", b, f, api.ErrLarge)
}

func TestPackLimits(t *testing.T) {
	for form, head := range []int{8, 16, 8} {
		b, f := box.Pack([]api.Box{leaf("data", form, make([]byte, api.MaxFile-head)...)})
		if f != api.OK || len(b) != api.MaxFile {
			t.Error("Pack of all bytes", form, len(b), f)
		}
	}
	b, f := box.Pack([]api.Box{nested(node("film", api.FormOpen), 7)})
	is(t, "Pack of a deep box", b, f, joined(deep(7, joined(int32(0), "film"))))
}

func TestFind(t *testing.T) {
	kid := func(n byte) api.Box { return leaf("name", api.FormShort, n) }
	track := node("trck", api.FormLong, kid(3), leaf("rate", api.FormShort), kid(4))
	l := []api.Box{
		kid(0), node("film", api.FormShort, kid(1), node("trck", api.FormShort, kid(2)), kid(9), track),
		node("frag", api.FormShort, node("trck", api.FormShort, kid(5))), node("film", api.FormOpen, node("trck", api.FormShort, kid(6))),
	}
	for path, want := range map[string][]api.Box{
		"name":                               {kid(0)},
		"film":                               {l[1], l[3]},
		"film/name":                          {kid(1), kid(9)},
		"film/trck":                          {l[1].Kids[1], track, l[3].Kids[0]},
		"film/trck/name":                     {kid(2), kid(3), kid(4), kid(6)},
		"frag/trck/name":                     {kid(5)},
		"trck":                               nil,
		"name/name":                          nil,
		"film/film/name":                     nil,
		"film/0000/name":                     nil,
		strings.Repeat("film/", 50) + "film": nil,
	} {
		found, f := box.Find(l, path)
		is(t, "Find "+path, found, f, want)
	}
	found, f := box.Find(nil, "film")
	is(t, "Find in nothing", found, f, nil)
	for _, path := range []string{"", "/", "film/", "/film", "film//name", "Film", "fil", "films", "film/NAME", "name/no", "film,trck", "film/trck/näm", "none/no"} {
		found, f := box.Find(l, path)
		isNot(t, "Find "+path, found, f, api.ErrName)
	}
}

// anyBoxes returns boxes that can be written, within so many others.
func anyBoxes(r *rand.Rand, others int) []api.Box {
	var l []api.Box
	many := r.Intn(4)
	for i := range many {
		x := api.Box{Kind: []string{"film", "trck", "frag", "data", "0z9a"}[r.Intn(5)], Form: r.Intn(2)}
		if i == many-1 {
			x.Form = r.Intn(3)
		}
		if x.Kind == "data" || x.Kind == "0z9a" {
			x.Data = make([]byte, r.Intn(5))
			r.Read(x.Data)
		} else if others < 7 {
			x.Kids = anyBoxes(r, others+1)
		}
		l = append(l, x)
	}
	return l
}

// What was packed is parsed again; and what can be parsed, also if it was damaged, is packed again.
func TestParseOfPack(t *testing.T) {
	r := rand.New(rand.NewSource(1))
	damaged := 0
	for range 3000 {
		l := anyBoxes(r, 0)
		b, f := box.Pack(l)
		if f == api.ErrLarge {
			continue
		}
		again, place, fault := box.Parse(b)
		if f != api.OK || fault != api.OK || place != 0 || !equal(again, l) {
			t.Fatal("Parse of Pack", l, f, again, place, fault)
		}
		for range 20 {
			x := slices.Clone(b)
			if len(x) > 0 {
				x[r.Intn(len(x))] = byte(oneOf(r, 0, 1, 2, 8, 9, 16, 17, 24, 'a', 255))
				x = x[:len(x)-r.Intn(2)]
			}
			l, place, f := box.Parse(x)
			if f != api.OK {
				damaged++
				if place < 0 || place >= len(x) || len(l) > 0 || f != api.ErrSyntax && f != api.ErrLarge {
					t.Fatal("Parse", x, l, place, f)
				}
				continue
			}
			again, f := box.Pack(l)
			is(t, "Pack of Parse", again, f, x)
		}
	}
	if damaged < 1000 {
		t.Error("few were damaged", damaged)
	}
}

func TestBoxesAreNewMemory(t *testing.T) {
	l := roomy([]api.Box{
		node("film", api.FormShort, roomy([]api.Box{leaf("head", api.FormShort, roomy([]byte{1, 2})...), node("trck", api.FormShort, leaf("name", api.FormShort, 3))})...),
		leaf("data", api.FormShort, roomy([]byte{4, 5, 6})...), leaf("data", api.FormShort, 7, 8),
	})
	b := roomy(joined(int32(44), "film", int32(10), "head", 1, 2, int32(17), "trck", int32(9), "name", 3, int32(9), "free", 9, int32(11), "data", 4, 5, 6))
	untouched(t, "Pack", l, func() {
		b, _ := box.Pack(l)
		apart(t, "Pack", b, l)
	})
	untouched(t, "Find", l, func() {
		for _, path := range []string{"film", "film/trck", "film/trck/name", "data"} {
			found, f := box.Find(l, path)
			if f != api.OK || len(found) == 0 {
				t.Error("Find", path, found, f)
			}
			apart(t, "Find", found, l)
		}
	})
	untouched(t, "Parse", b, func() {
		l, _, f := box.Parse(b)
		if f != api.OK || len(l) != 2 {
			t.Error("Parse", l, f)
		}
		apart(t, "Parse", l, b)
	})
}
