package box_test

import (
	"bytes"
	"fmt"
	"math/rand"
	"slices"
	"testing"

	"headend/api"
	"headend/box"
)

// pair returns a film with two tracks, and their data.
func pair() (api.Film, [][]byte) {
	sound := []api.Sample{{Time: 5, Step: 1, Size: 1, Key: true}, {Time: 6, Step: 1, Size: 2, Key: true}, {Time: 7, Step: 1, Size: 3, Key: true}}
	return api.Film{Scale: 1000, Tracks: []api.Track{
		{Name: "v", Scale: 90000, Samples: samplesOf(10), Edits: edits(500, -1, 1000, 9000)},
		{Name: "sound-1", Scale: 7, Samples: sound},
	}}, [][]byte{{1, 2}, {3, 4, 5, 6, 7, 8}}
}

// tableBytes returns the bytes of the table of samples.
func tableBytes(l []api.Sample, chunks, places []int) []byte {
	x, _ := box.Compact(l, chunks, places)
	b, _ := box.TableBytes(x)
	return b
}

// boxOf returns the bytes of a box.
func boxOf(kind string, parts ...any) []byte {
	b := joined(parts...)
	return joined(int32(len(b)+8), kind, b)
}

func TestWriteFilm(t *testing.T) {
	film, data := pair()
	for _, c := range []struct {
		chunk          int
		first, second  []int // samples of the chunks
		places, others []int // from the begin of the data on
		content        []byte
	}{
		{1, []int{1}, []int{1, 1, 1}, []int{0}, []int{2, 3, 5}, []byte{1, 2, 3, 4, 5, 6, 7, 8}},
		{2, []int{1}, []int{2, 1}, []int{0}, []int{2, 5}, []byte{1, 2, 3, 4, 5, 6, 7, 8}},
		{3, []int{1}, []int{3}, []int{0}, []int{2}, []byte{1, 2, 3, 4, 5, 6, 7, 8}},
		{api.MaxChunk, []int{1}, []int{3}, []int{0}, []int{2}, []byte{1, 2, 3, 4, 5, 6, 7, 8}},
	} {
		written := func(begin int) []byte {
			at := func(l []int) []int {
				l = slices.Clone(l)
				for i := range l {
					l[i] += begin
				}
				return l
			}
			v := boxOf("trck", boxOf("name", "v"), boxOf("rate", int32(90000)), boxOf("edit", int64(500), int64(-1), int64(1000), int64(9000)),
				boxOf("tabl", tableBytes(film.Tracks[0].Samples, c.first, at(c.places))))
			s := boxOf("trck", boxOf("name", "sound-1"), boxOf("rate", int32(7)), boxOf("edit"), boxOf("tabl", tableBytes(film.Tracks[1].Samples, c.second, at(c.others))))
			return boxOf("film", boxOf("head", int32(1000)), v, s)
		}
		want := joined(written(len(written(0))+8), boxOf("data", c.content))
		b, f := box.WriteFilm(film, data, c.chunk)
		is(t, fmt.Sprint("WriteFilm ", c.chunk), b, f, want)
	}
	b, f := box.WriteFilm(api.Film{Scale: api.MaxScale}, nil, 1)
	is(t, "WriteFilm without tracks", b, f, joined(boxOf("film", boxOf("head", int32(api.MaxScale))), boxOf("data")))
}

// The chunks are number 1 of each track, then number 2 of each that has one, and so on.
func TestOrderOfChunks(t *testing.T) {
	var film api.Film
	var data [][]byte
	film.Scale = 1
	for i, n := range []int{3, 0, 5, 1} {
		l := manySamples(n)
		var b []byte
		for k := range l {
			l[k].Size = 1
			b = append(b, byte(10*(i+1)+k))
		}
		film.Tracks = append(film.Tracks, api.Track{Name: tracks(4)[i].Name, Scale: 1, Samples: l})
		data = append(data, b)
	}
	for chunk, want := range map[int][]byte{
		1: {10, 30, 40, 11, 31, 12, 32, 33, 34},
		2: {10, 11, 30, 31, 40, 12, 32, 33, 34},
		4: {10, 11, 12, 30, 31, 32, 33, 40, 34},
		5: {10, 11, 12, 30, 31, 32, 33, 34, 40},
	} {
		b, f := box.WriteFilm(film, data, chunk)
		if f != api.OK || !bytes.HasSuffix(b, boxOf("data", want)) {
			t.Error("WriteFilm", chunk, b, f)
		}
		again, d, place, f := box.ReadFilm(b)
		is(t, "ReadFilm", again, f, film)
		is(t, "ReadFilm", d, f, data)
		if place != 0 {
			t.Error("ReadFilm", place)
		}
	}
}

// large returns a film with a track of as many bytes as the file has beside those of the film.
func large(file int) (api.Film, [][]byte) {
	film := edited(1, 1, nil)
	l := manySamples(30)
	film.Tracks[0].Samples = l
	empty, _ := box.WriteFilm(film, [][]byte{nil}, api.MaxChunk)
	left := file - len(empty) - 8*(len(l)-1) // as the sizes are not all equal
	data := make([]byte, left)
	for i := range l {
		l[i].Size = min(left, api.MaxSampleSize)
		left -= l[i].Size
	}
	return film, [][]byte{data}
}

func TestWriteFilmFaults(t *testing.T) {
	film, data := pair()
	for what, c := range map[string]struct {
		data  [][]byte
		chunk int
		want  api.Fault
	}{
		"chunk 0":              {data, 0, api.ErrRange},
		"chunk -1":             {data, -1, api.ErrRange},
		"chunk too great":      {data, api.MaxChunk + 1, api.ErrRange},
		"no data":              {nil, 1, api.ErrForm},
		"too few data":         {data[:1], 1, api.ErrForm},
		"too many data":        {append(slices.Clone(data), nil), 1, api.ErrForm},
		"too few bytes":        {[][]byte{{1, 2}, {3, 4, 5, 6, 7}}, 1, api.ErrForm},
		"too many bytes":       {[][]byte{{1, 2, 3}, {3, 4, 5, 6, 7, 8}}, 1, api.ErrForm},
		"bytes of another one": {[][]byte{data[1], data[0]}, 1, api.ErrForm},
		"chunk, then data":     {nil, 0, api.ErrRange},
	} {
		b, f := box.WriteFilm(film, c.data, c.chunk)
		isNot(t, "WriteFilm "+what, b, f, c.want)
	}
	film, data = large(api.MaxFile)
	b, f := box.WriteFilm(film, data, api.MaxChunk)
	if f != api.OK || len(b) != api.MaxFile {
		t.Error("WriteFilm of all bytes", len(b), f)
	}
	again, d, _, f := box.ReadFilm(b)
	is(t, "ReadFilm of all bytes", again, f, film)
	is(t, "ReadFilm of all bytes", d, f, data)
	b, f = box.WriteFilm(film, data, 29) // another chunk makes the table larger
	isNot(t, "WriteFilm of too many bytes", b, f, api.ErrLarge)
	film, data = large(api.MaxFile + 1)
	b, f = box.WriteFilm(film, data, api.MaxChunk)
	isNot(t, "WriteFilm of too many bytes", b, f, api.ErrLarge)
	b, f = box.WriteFilm(film, [][]byte{data[0][1:]}, api.MaxChunk) // the form comes first
	isNot(t, "WriteFilm", b, f, api.ErrForm)
	film, data = api.Film{Scale: 1, Tracks: tracks(api.MaxTracks)}, make([][]byte, api.MaxTracks)
	for i := range film.Tracks {
		l := manySamples(api.MaxSamples)
		for k := range l {
			l[k].Shift, l[k].Key = k, k%2 == 0 // a run for each
		}
		film.Tracks[i].Samples = l
	}
	b, f = box.WriteFilm(film, data, 1) // the tables alone are too large
	isNot(t, "WriteFilm of large tables", b, f, api.ErrLarge)
}

// kidsOf returns the boxes of a track that can be read; its one sample has the bytes from a place on.
func kidsOf(place, size int) []api.Box {
	l := []api.Sample{{Time: 3, Step: 4, Size: size, Key: true}}
	return []api.Box{
		leaf("name", api.FormShort, 'v'), leaf("rate", api.FormShort, 0, 0, 0, 9), leaf("edit", api.FormShort),
		leaf("tabl", api.FormShort, tableBytes(l, []int{1}, []int{place})...),
	}
}

// filmOf returns a box `film` with tracks that have such boxes.
func filmOf(tracks ...[]api.Box) api.Box {
	film := node("film", api.FormShort, leaf("head", api.FormShort, 0, 0, 0, 7))
	for _, kids := range tracks {
		film.Kids = append(film.Kids, node("trck", api.FormShort, kids...))
	}
	return film
}

func pack(t *testing.T, l ...api.Box) []byte {
	t.Helper()
	b, f := box.Pack(l)
	if f != api.OK {
		t.Fatal("Pack", l, f)
	}
	return b
}

// withBytes returns a file of boxes, in which the sample of the film, which is the box at, lies so many bytes behind the beginning of a box.
func withBytes(t *testing.T, l []api.Box, at, target, behind, size int) []byte {
	t.Helper()
	l = slices.Clone(l)
	l[at].Kids = filmOf(kidsOf(0, size)).Kids
	place := len(pack(t, l[:target]...)) + behind
	l[at].Kids = filmOf(kidsOf(place, size)).Kids
	return pack(t, l...)
}

// The boxes of a film may have any form, and others may lie before, between and behind them.
func TestReadFilmForms(t *testing.T) {
	data := leaf("data", api.FormShort, 10, 11, 12, 13)
	free := node("frag", api.FormShort, filmOf(), leaf("data", api.FormShort, 1, 2, 3, 4))
	want := api.Film{Scale: 7, Tracks: []api.Track{{Name: "v", Scale: 9, Samples: []api.Sample{{Time: 3, Step: 4, Size: 2, Key: true}}}}}
	film := api.Box{Kind: "film"}
	for what, c := range map[string]struct {
		l                  []api.Box
		at, target, behind int
		want               []byte
	}{
		"film first":        {[]api.Box{film, data}, 0, 1, 9, []byte{11, 12}},
		"data first":        {[]api.Box{data, film}, 1, 0, 10, []byte{12, 13}},
		"data twice":        {[]api.Box{data, film, data}, 1, 2, 8, []byte{10, 11}},
		"data of the first": {[]api.Box{data, film, data}, 1, 0, 8, []byte{10, 11}},
		"others":            {[]api.Box{free, film, free, leaf("head", api.FormShort, 9), data, leaf("trc0", api.FormShort)}, 1, 4, 8, []byte{10, 11}},
		"tracks outside":    {[]api.Box{node("trck", api.FormShort), film, data, node("trck", api.FormShort, data)}, 1, 2, 8, []byte{10, 11}},
		"data empty":        {[]api.Box{leaf("data", api.FormShort), film, leaf("data", api.FormShort), data, leaf("data", api.FormShort)}, 1, 3, 8, []byte{10, 11}},
		"data long":         {[]api.Box{film, leaf("data", api.FormLong, 10, 11)}, 0, 1, 16, []byte{10, 11}},
		"data open":         {[]api.Box{film, leaf("data", api.FormOpen, 10, 11)}, 0, 1, 8, []byte{10, 11}},
		"film long":         {[]api.Box{{Kind: "film", Form: api.FormLong}, data}, 0, 1, 8, []byte{10, 11}},
		"film open":         {[]api.Box{data, {Kind: "film", Form: api.FormOpen}}, 1, 0, 8, []byte{10, 11}},
	} {
		x, d, place, f := box.ReadFilm(withBytes(t, c.l, c.at, c.target, c.behind, 2))
		is(t, "ReadFilm "+what, x, f, want)
		is(t, "ReadFilm "+what, d, f, [][]byte{c.want})
		if place != 0 {
			t.Error("ReadFilm", what, place)
		}
	}
	kids := kidsOf(9, 2)
	for i := range kids {
		kids[i].Form = api.FormLong
	}
	kids[3].Form = api.FormOpen
	inner := node("film", api.FormOpen, leaf("head", api.FormLong, 0, 0, 0, 7), node("trck", api.FormOpen, kids...))
	x, d, _, f := box.ReadFilm(pack(t, data, inner))
	is(t, "ReadFilm of long boxes", x, f, want)
	is(t, "ReadFilm of long boxes", d, f, [][]byte{{11, 12}})
	x, d, _, f = box.ReadFilm(pack(t, node("film", api.FormOpen, leaf("head", api.FormOpen, 0, 0, 0, 7))))
	is(t, "ReadFilm without tracks", x, f, api.Film{Scale: 7})
	is(t, "ReadFilm without tracks", d, f, nil)
}

// Tables may be any: samples may lie in any order, and also over one another.
func TestReadFilmTables(t *testing.T) {
	x := api.Table{Steps: runs(1, 1, 2, 1), Shifts: runs(3, 5), Sizes: []int{2, 2, 2}, Keys: []int{1, 2, 3}, Chunks: chunkRuns(1, 1, 2, 1), Places: []int{10, 8, 9}}
	b, f := box.TableBytes(x)
	if f != api.OK {
		t.Fatal("TableBytes", f)
	}
	kids := kidsOf(0, 0)
	kids[2].Data = joined(int64(4), int64(-1), int64(6), int64(9))
	kids[3].Data = b
	film, d, _, f := box.ReadFilm(pack(t, leaf("data", api.FormShort, 1, 2, 3, 4), filmOf(kids)))
	l := []api.Sample{{Time: 0, Step: 1, Shift: 5, Size: 2, Key: true}, {Time: 1, Step: 1, Shift: 5, Size: 2, Key: true}, {Time: 2, Step: 1, Shift: 5, Size: 2, Key: true}}
	is(t, "ReadFilm", film, f, api.Film{Scale: 7, Tracks: []api.Track{{Name: "v", Scale: 9, Samples: l, Edits: edits(4, -1, 6, 9)}}})
	is(t, "ReadFilm", d, f, [][]byte{{3, 4, 1, 2, 2, 3}})
}

// Where there are no bytes, any place will do.
func TestReadFilmWithoutBytes(t *testing.T) {
	for _, place := range []int{0, 1, 50, api.MaxFile} {
		film, d, _, f := box.ReadFilm(pack(t, filmOf(kidsOf(place, 0))))
		if f != api.OK || len(film.Tracks) != 1 || len(d) != 1 || len(d[0]) != 0 {
			t.Error("ReadFilm", place, film, d, f)
		}
	}
}

// readFault expects a fault of a file, with a place.
func readFault(t *testing.T, what string, b []byte, wantPlace int, want api.Fault) {
	t.Helper()
	film, data, place, f := box.ReadFilm(b)
	isAt(t, "ReadFilm "+what, film, place, f, wantPlace, want)
	isNot(t, "ReadFilm "+what, data, f, want)
}

func TestReadFilmParses(t *testing.T) {
	good := pack(t, filmOf())
	readFault(t, "too many bytes", make([]byte, api.MaxFile+1), 0, api.ErrLarge)
	readFault(t, "bytes behind", append(slices.Clone(good), 0), len(good), api.ErrSyntax)
	readFault(t, "a wrong box before a missing one", joined(boxOf("free"), int32(7), "free"), 8, api.ErrSyntax)
	readFault(t, "a wrong box behind a wrong one", joined(boxOf("film", boxOf("free")), int32(7), "free"), 24-8, api.ErrSyntax)
	readFault(t, "too deep", deep(8, boxOf("free")), 64, api.ErrLarge)
	readFault(t, "too many boxes", joined(slices.Repeat(boxOf("free"), api.MaxBoxes), boxOf("film")), 8*api.MaxBoxes, api.ErrLarge)
}

func TestReadFilmBoxes(t *testing.T) {
	free, head := leaf("free", api.FormShort), leaf("head", api.FormShort, 0, 0, 0, 7)
	name := func(kids []api.Box, i int, kind string) []api.Box {
		kids = slices.Clone(kids)
		kids[i].Kind = kind
		return kids
	}
	data := func(i int, b ...byte) []api.Box {
		kids := kidsOf(0, 0)
		kids[i].Data = b
		return kids
	}
	kids := kidsOf(0, 0)
	sizes := []int{9, 12, 8, 8 + len(kids[3].Data)}
	track := 8 + sizes[0] + sizes[1] + sizes[2] + sizes[3]
	// In film, head is at 8, the first track at 20, its boxes at 28, 37, 49 and 57.
	const end = -1 // the number of all bytes
	for what, c := range map[string]struct {
		l     []api.Box
		place int
	}{
		"nothing":                   {nil, end},
		"no film":                   {[]api.Box{free, leaf("data", api.FormShort, 1), node("trck", api.FormShort)}, end},
		"film within another":       {[]api.Box{node("frag", api.FormShort, filmOf())}, end},
		"two films":                 {[]api.Box{filmOf(), free, filmOf()}, 28},
		"two films, second wrong":   {[]api.Box{filmOf(), node("film", api.FormShort)}, 20},
		"no head":                   {[]api.Box{node("film", api.FormShort)}, end},
		"no head, but boxes behind": {[]api.Box{node("film", api.FormShort), free, free}, end},
		"head is another":           {[]api.Box{node("film", api.FormShort, free, head)}, 8},
		"track before head":         {[]api.Box{node("film", api.FormShort, node("trck", api.FormShort, kids...), head)}, 8},
		"head of 3":                 {[]api.Box{node("film", api.FormShort, leaf("head", api.FormShort, 0, 0, 7))}, 8},
		"head of 5":                 {[]api.Box{node("film", api.FormShort, leaf("head", api.FormShort, 0, 0, 0, 0, 7))}, 8},
		"head twice":                {[]api.Box{node("film", api.FormShort, head, head)}, 20},
		"data in film":              {[]api.Box{node("film", api.FormShort, head, leaf("data", api.FormShort))}, 20},
		"free behind a track":       {[]api.Box{node("film", api.FormShort, head, node("trck", api.FormShort, kids...), free)}, 20 + track},
		"free before it all":        {[]api.Box{free, node("film", api.FormLong, head, free)}, 8 + 16 + 12},
		"track without boxes":       {[]api.Box{filmOf(nil), free}, 28},
		"no rate":                   {[]api.Box{filmOf(kids[:1]), free}, 37},
		"no edit":                   {[]api.Box{filmOf(kids[:2]), free}, 49},
		"no tabl":                   {[]api.Box{filmOf(kids[:3]), free}, 57},
		"no tabl, first of two":     {[]api.Box{filmOf(kids[:3], kids)}, 57},
		"no tabl, second of two":    {[]api.Box{filmOf(kids, kids[:3])}, 20 + track + 37},
		"name is another":           {[]api.Box{filmOf(name(kids, 0, "nam0"))}, 28},
		"rate is another":           {[]api.Box{filmOf(name(kids, 1, "head"))}, 37},
		"edit is left out":          {[]api.Box{filmOf(slices.Delete(slices.Clone(kids), 2, 3))}, 49},
		"tabl is another":           {[]api.Box{filmOf(name(kids, 3, "edit"))}, 57},
		"another order":             {[]api.Box{filmOf([]api.Box{kids[1], kids[0], kids[2], kids[3]})}, 28},
		"a box behind tabl":         {[]api.Box{filmOf(append(slices.Clone(kids), free))}, 57 + sizes[3]},
		"tabl twice":                {[]api.Box{filmOf(append(slices.Clone(kids), kids[3]))}, 57 + sizes[3]},
		"rate of 3":                 {[]api.Box{filmOf(data(1, 0, 0, 9))}, 37},
		"rate of 8":                 {[]api.Box{filmOf(data(1, make([]byte, 8)...))}, 37},
		"edit of 15":                {[]api.Box{filmOf(data(2, make([]byte, 15)...))}, 49},
		"edit of 24":                {[]api.Box{filmOf(data(2, make([]byte, 24)...))}, 49},
		"tabl of nothing":           {[]api.Box{filmOf(data(3))}, 57},
		"tabl, a byte too few":      {[]api.Box{filmOf(data(3, kids[3].Data[1:]...))}, 57},
		"tabl, a byte too many":     {[]api.Box{filmOf(data(3, append(slices.Clone(kids[3].Data), 0)...))}, 57},
		"tabl with too many":        {[]api.Box{filmOf(data(3, joined(int64(0), int32(2), int64(api.MaxSamples), int64(0), int64(1), int64(0), make([]byte, 17))...))}, 57},
		"rate, then tabl":           {[]api.Box{filmOf(append(data(1)[:3], free))}, 37},
		"edit, then a second film":  {[]api.Box{filmOf(data(2, 1)), filmOf()}, 49},
		"first track, then second":  {[]api.Box{filmOf(data(3), data(1))}, 57},
		"boxes come before tables":  {[]api.Box{filmOf(data(3, joined(int64(api.MaxTime+1), make([]byte, 21))...), data(1))}, 20 + 8 + 9 + 12 + 8 + 8 + 29 + 8 + 9},
	} {
		b := pack(t, c.l...)
		place := c.place
		if place == end {
			place = len(b)
		}
		readFault(t, what, b, place, api.ErrSyntax)
	}
	long := kidsOf(0, 0)
	for i := range long {
		long[i].Form = api.FormLong
	}
	readFault(t, "long boxes", pack(t, free, filmOf(append(long, free))), 8+20+8+17+20+16+8+sizes[3], api.ErrSyntax)
}

func TestReadFilmChecks(t *testing.T) {
	table := func(x ...any) []api.Box {
		kids := kidsOf(0, 0)
		kids[3].Data = joined(x...)
		return kids
	}
	start := table(int64(api.MaxTime+1), make([]byte, 21))
	form := table(int64(0), int32(0), int32(1), int64(1), int64(0), make([]byte, 13))
	order := table(int64(0), int32(1), int64(2), int64(1), int32(1), int64(2), int64(0), int32(1), int64(0), 1, int32(2), int64(2), int64(1), int32(1), int64(1), int64(2), int32(1), int64(0))
	beyond := kidsOf(api.MaxFile-4, 5)
	noName, sameName, noScale := kidsOf(0, 0), kidsOf(0, 0), kidsOf(0, 0)
	noName[0].Data = []byte("V")
	noScale[1].Data = []byte{255, 255, 255, 255}
	many := kidsOf(0, 0)
	many[2].Data = bytes.Repeat(joined(int64(1), int64(0)), api.MaxEdits+1)
	edit := kidsOf(0, 0)
	edit[2].Data = joined(int64(1), int64(-2))
	noFilmScale := filmOf(kidsOf(0, 0))
	noFilmScale.Kids[0].Data = []byte{0, 0, 0, 0}
	nowhere := kidsOf(0, 1)
	for what, c := range map[string]struct {
		film api.Box
		want api.Fault
	}{
		"start":                    {filmOf(start), api.ErrRange},
		"shifts":                   {filmOf(form), api.ErrForm},
		"keys":                     {filmOf(order), api.ErrOrder},
		"beyond the greatest file": {filmOf(beyond), api.ErrRange},
		"first table, then second": {filmOf(form, order), api.ErrForm},
		"second table":             {filmOf(kidsOf(0, 0), order), api.ErrOrder},
		"table, then the film":     {filmOf(noName, form), api.ErrForm},
		"beyond, then the film":    {filmOf(noName, beyond), api.ErrRange},
		"name":                     {filmOf(noName), api.ErrName},
		"name again":               {filmOf(kidsOf(0, 0), sameName), api.ErrTwice},
		"scale":                    {filmOf(noScale), api.ErrRange},
		"too many edits":           {filmOf(many), api.ErrLarge},
		"edit":                     {filmOf(edit), api.ErrRange},
		"scale of the film":        {noFilmScale, api.ErrRange},
		"too many tracks":          {filmOf(slices.Repeat([][]api.Box{kidsOf(0, 0)}, api.MaxTracks+1)...), api.ErrLarge},
		"tables, then too many":    {filmOf(append(slices.Repeat([][]api.Box{kidsOf(0, 0)}, api.MaxTracks+1), form)...), api.ErrForm},
		"film, then the bytes":     {filmOf(nowhere, noName), api.ErrName},
		"bytes":                    {filmOf(nowhere), api.ErrRange},
	} {
		readFault(t, what, pack(t, c.film), 0, c.want)
	}
}

// Bytes that are not all in one box `data`.
func TestReadFilmPlaces(t *testing.T) {
	data := leaf("data", api.FormShort, 10, 11)
	film := api.Box{Kind: "film"}
	inside := node("frag", api.FormShort, data)
	for what, c := range map[string]struct {
		l                        []api.Box
		at, target, behind, size int
	}{
		"in the head":         {[]api.Box{film, data}, 0, 1, 7, 1},
		"from the head on":    {[]api.Box{film, data}, 0, 1, 7, 2},
		"beyond the end":      {[]api.Box{film, data}, 0, 1, 9, 2},
		"behind the end":      {[]api.Box{film, data}, 0, 1, 10, 1},
		"into the next":       {[]api.Box{film, data, data}, 0, 1, 9, 2},
		"over both":           {[]api.Box{data, film, data, data}, 1, 2, 8, 12},
		"in the next head":    {[]api.Box{film, data, data}, 0, 2, 3, 1},
		"in the head of long": {[]api.Box{film, leaf("data", api.FormLong, 10, 11)}, 0, 1, 8, 1},
		"in the film":         {[]api.Box{film, data}, 0, 0, 16, 1},
		"in another box":      {[]api.Box{film, leaf("dat0", api.FormShort, 10, 11), data}, 0, 1, 8, 1},
		"in an inner box":     {[]api.Box{film, inside}, 0, 1, 16, 1},
		"far behind":          {[]api.Box{film, data}, 0, 1, 500000, 1},
		"no data":             {[]api.Box{film, leaf("free", api.FormShort, 10, 11)}, 0, 1, 8, 1},
	} {
		readFault(t, what, withBytes(t, c.l, c.at, c.target, c.behind, c.size), 0, api.ErrRange)
	}
	b := pack(t, data, filmOf(kidsOf(8, 2), kidsOf(9, 2))) // of the second track
	readFault(t, "second name", b, 0, api.ErrTwice)
	other := kidsOf(9, 2)
	other[0].Data = []byte("w")
	readFault(t, "second track", pack(t, data, filmOf(kidsOf(8, 2), other)), 0, api.ErrRange)
}

func TestReadFilmOfWriteFilm(t *testing.T) {
	r := rand.New(rand.NewSource(1))
	for range 500 {
		film := api.Film{Scale: 1 + r.Intn(api.MaxScale)}
		var data [][]byte
		for i := range r.Intn(4) {
			track := api.Track{Name: tracks(4)[i].Name, Scale: 1 + r.Intn(api.MaxScale), Samples: anySamples(r, r.Intn(9))}
			for range r.Intn(3) {
				track.Edits = append(track.Edits, api.Edit{Length: 1 + r.Intn(api.MaxTime/3), Media: r.Intn(api.MaxTime+2) - 1})
			}
			size := 0
			for _, s := range track.Samples {
				size += s.Size
			}
			b := make([]byte, size)
			r.Read(b)
			film.Tracks = append(film.Tracks, track)
			data = append(data, b)
		}
		b, f := box.WriteFilm(film, data, 1+r.Intn(4))
		if f != api.OK {
			t.Fatal("WriteFilm", film, data, f)
		}
		again, d, _, f := box.ReadFilm(b)
		is(t, "ReadFilm of WriteFilm", again, f, film)
		is(t, "ReadFilm of WriteFilm", d, f, data)
	}
}

// G1: a file may be damaged in any way.
func TestReadFilmOfDamaged(t *testing.T) {
	r := rand.New(rand.NewSource(1))
	film, data := pair()
	good, _ := box.WriteFilm(film, data, 2)
	for range 20000 {
		b := slices.Clone(good)
		for range 1 + r.Intn(3) {
			b[r.Intn(len(b))] = byte(oneOf(r, 0, 1, 2, 8, 16, 'a', 128, 255))
		}
		film, data, place, f := box.ReadFilm(b[:len(b)-r.Intn(2)*r.Intn(9)])
		if f != api.OK {
			isNot(t, "ReadFilm", film, f, f)
			isNot(t, "ReadFilm", data, f, f)
		}
		if f == api.OK && place != 0 || place < 0 || place > len(b) {
			t.Error("ReadFilm", b, place, f)
		}
	}
}

func TestFilesAreNewMemory(t *testing.T) {
	film, data := pair()
	data = roomy([][]byte{roomy(data[0]), roomy(data[1])})
	film.Tracks = roomy(film.Tracks)
	untouched(t, "WriteFilm", film, func() {
		untouched(t, "WriteFilm", data, func() {
			b, _ := box.WriteFilm(film, data, 2)
			apart(t, "WriteFilm", b, film, data)
			b = roomy(b)
			untouched(t, "ReadFilm", b, func() {
				x, d, _, _ := box.ReadFilm(b)
				apart(t, "ReadFilm", x, b, d)
				apart(t, "ReadFilm", d, b)
			})
		})
	})
}
