package box

import (
	"headend/api"
	"headend/check"
	"headend/wire"
)

// Kinds of the boxes of a file.
const (
	kindFilm     = "film"
	kindTrack    = "trck"
	kindFragment = "frag"
	kindHead     = "head"
	kindName     = "name"
	kindRate     = "rate"
	kindEdit     = "edit"
	kindTable    = "tabl"
	kindData     = "data"
)

// Bytes of a scale, and of an edit.
const (
	scaleBytes = 4
	editBytes  = 16
)

// WriteFilm writes a film with the bytes of all samples of each track.
func WriteFilm(f api.Film, data [][]byte, chunk int) ([]byte, api.Fault) {
	fault := check.First(
		CheckFilm(f),
		check.If(!check.Within(chunk, 1, api.MaxChunk), api.ErrRange),
		checkData(f.Tracks, data),
	)
	if fault != api.OK {
		return nil, fault
	}
	var tracks []chunked
	size := 0
	for i, t := range f.Tracks {
		tracks = append(tracks, inChunks(t, data[i], chunk))
		size += len(data[i])
	}
	// The places do not change how many bytes they have, so that they can be told after the film was measured.
	begin := sizeOf(filmBox(f.Scale, tracks)) + shortHead
	if begin+size > api.MaxFile {
		return nil, api.ErrLarge
	}
	content := placeChunks(tracks, begin)
	return Pack([]api.Box{filmBox(f.Scale, tracks), {Kind: kindData, Data: content}})
}

// checkData validates that there are as many bytes for each track as its samples have.
func checkData(tracks []api.Track, data [][]byte) api.Fault {
	if len(data) != len(tracks) {
		return api.ErrForm
	}
	for i, t := range tracks {
		if len(data[i]) != BytesOf(t.Samples) {
			return api.ErrForm
		}
	}
	return api.OK
}

// chunked is a track with the bytes of its chunks, how many samples each has, and where it is in the file.
type chunked struct {
	track  api.Track
	bytes  [][]byte
	counts []int
	places []int
}

// inChunks returns a track with so many samples in each chunk, the places of which are not known yet.
func inChunks(t api.Track, data []byte, chunk int) chunked {
	c := chunked{track: t}
	for from := 0; from < len(t.Samples); from += chunk {
		samples := t.Samples[from:min(from+chunk, len(t.Samples))]
		size := BytesOf(samples)
		c.bytes = append(c.bytes, data[:size])
		c.counts = append(c.counts, len(samples))
		data = data[size:]
	}
	c.places = make([]int, len(c.counts))
	return c
}

// placeChunks returns the bytes of all chunks, which begin at a place, in their order in the file, and tells the tracks their places.
func placeChunks(tracks []chunked, begin int) []byte {
	var content []byte
	for number, more := 0, true; more; number++ {
		more = false
		for _, c := range tracks {
			if number < len(c.places) {
				c.places[number] = begin + len(content)
				content = append(content, c.bytes[number]...)
				more = true
			}
		}
	}
	return content
}

func filmBox(scale int, tracks []chunked) api.Box {
	film := api.Box{Kind: kindFilm}
	film.Kids = append(film.Kids, api.Box{Kind: kindHead, Data: wire.Append(nil, scaleBytes, scale)})
	for _, c := range tracks {
		film.Kids = append(film.Kids, trackBox(c))
	}
	return film
}

func trackBox(c chunked) api.Box {
	var edits []byte
	for _, e := range c.track.Edits {
		edits = wire.Append(edits, editBytes/2, e.Length, e.Media)
	}
	return api.Box{Kind: kindTrack, Kids: []api.Box{
		{Kind: kindName, Data: []byte(c.track.Name)},
		{Kind: kindRate, Data: wire.Append(nil, scaleBytes, c.track.Scale)},
		{Kind: kindEdit, Data: edits},
		{Kind: kindTable, Data: tableOf(c)},
	}}
}

// tableOf writes the table of a track that is valid, as its film was validated.
func tableOf(c chunked) []byte {
	t, _ := Compact(c.track.Samples, c.counts, c.places)
	b, _ := TableBytes(t)
	return b
}
