package box

import (
	"sort"

	"headend/api"
	"headend/check"
	"headend/wire"
)

// ReadFilm reads a film, and the bytes of all samples of each track, or returns the place of what is wrong.
func ReadFilm(b []byte) (api.Film, [][]byte, int, api.Fault) {
	l, place, fault := Parse(b)
	if fault != api.OK {
		return api.Film{}, nil, place, fault
	}
	o := outline{all: len(b)}
	if place, ok := o.takeFile(l); !ok {
		return api.Film{}, nil, place, api.ErrSyntax
	}
	spots, fault := o.expand()
	fault = check.First(fault, CheckFilm(o.film))
	if fault != api.OK {
		return api.Film{}, nil, 0, fault
	}
	var data [][]byte
	for _, l := range spots {
		track, fault := o.collect(b, l)
		if fault != api.OK {
			return api.Film{}, nil, 0, fault
		}
		data = append(data, track)
	}
	return o.film, data, 0, api.OK
}

// outline is what the boxes of a file with so many bytes say; the tables are not yet expanded, and those that are not valid have a fault.
type outline struct {
	all    int
	film   api.Film
	tables []api.Table
	faults []api.Fault
	bodies []body
}

// body is from where to where the Data of a box `data` goes.
type body struct{ from, to int }

// placed is a box, and from where to where it goes in the file.
type placed struct {
	api.Box
	at, end int
}

// placedFrom returns the places of boxes that follow one another from a place on.
func placedFrom(at int, l []api.Box) []placed {
	var out []placed
	for _, x := range l {
		end := at + sizeOf(x)
		out = append(out, placed{x, at, end})
		at = end
	}
	return out
}

// content returns where what is in a box begins.
func (p placed) content() int { return p.at + headBytes(p.Form) }

// takeFile takes the outermost boxes; it returns the place of the first box that is not as it has to be, and whether there is none.
func (o *outline) takeFile(l []api.Box) (int, bool) {
	films := 0
	for _, x := range placedFrom(0, l) {
		switch x.Kind {
		case kindData:
			o.bodies = append(o.bodies, body{x.content(), x.end})
		case kindFilm:
			films++
			if films > 1 {
				return x.at, false
			}
			if place, ok := o.takeFilm(x); !ok {
				return place, false
			}
		}
	}
	return o.all, films == 1
}

func (o *outline) takeFilm(film placed) (int, bool) {
	kids := placedFrom(film.content(), film.Kids)
	if len(kids) == 0 {
		return o.all, false
	}
	first := kids[0]
	if first.Kind != kindHead || len(first.Data) != scaleBytes {
		return first.at, false
	}
	o.film.Scale = wire.Number(first.Data)
	for _, x := range kids[1:] {
		if x.Kind != kindTrack {
			return x.at, false
		}
		if place, ok := o.takeTrack(x); !ok {
			return place, false
		}
	}
	return 0, true
}

func (o *outline) takeTrack(track placed) (int, bool) {
	var t api.Track
	takes := []struct {
		kind string
		take func(b []byte) bool
	}{
		{kindName, func(b []byte) bool { t.Name = string(b); return true }},
		{kindRate, func(b []byte) bool { t.Scale = wire.Number(b); return len(b) == scaleBytes }},
		{kindEdit, func(b []byte) bool { t.Edits = readEdits(b); return len(b)%editBytes == 0 }},
		{kindTable, o.takeTable},
	}
	kids := placedFrom(track.content(), track.Kids)
	for i, x := range kids {
		if i >= len(takes) || x.Kind != takes[i].kind || !takes[i].take(x.Data) {
			return x.at, false
		}
	}
	o.film.Tracks = append(o.film.Tracks, t)
	return track.end, len(kids) == len(takes)
}

// readEdits returns the edits that are whole in bytes.
func readEdits(b []byte) []api.Edit {
	var l []api.Edit
	r := readerOf(b)
	for range len(b) / editBytes {
		length, media := r.Number(editBytes/2), r.Number(editBytes/2)
		l = append(l, api.Edit{Length: length, Media: media})
	}
	return l
}

// takeTable takes the table of a track. It says whether the bytes can be read; that they are no valid table is told later, after all boxes.
func (o *outline) takeTable(b []byte) bool {
	t, _, fault := ReadTable(b)
	o.tables = append(o.tables, t)
	o.faults = append(o.faults, fault)
	return fault != api.ErrSyntax && fault != api.ErrLarge
}

// expand puts the samples of the tables into the tracks, and returns, for each track, where they are.
func (o *outline) expand() ([][]api.Spot, api.Fault) {
	var spots [][]api.Spot
	for i, t := range o.tables {
		samples, l, fault := Expand(t)
		fault = check.First(o.faults[i], fault)
		if fault != api.OK {
			return nil, fault
		}
		o.film.Tracks[i].Samples = samples
		spots = append(spots, l)
	}
	return spots, api.OK
}

// collect returns the bytes of samples that are at spots.
func (o *outline) collect(b []byte, l []api.Spot) ([]byte, api.Fault) {
	var data []byte
	for _, s := range l {
		if s.Size == 0 {
			continue
		}
		end := s.Place + s.Size
		i := sort.Search(len(o.bodies), func(i int) bool { return o.bodies[i].to >= end })
		if i == len(o.bodies) || s.Place < o.bodies[i].from {
			return nil, api.ErrRange
		}
		data = append(data, b[s.Place:end]...)
	}
	return data, api.OK
}
