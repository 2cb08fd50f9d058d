package box

import (
	"headend/api"
	"headend/wire"
)

// TableBytes writes a table.
func TableBytes(t api.Table) ([]byte, api.Fault) {
	if fault := CheckTable(t); fault != api.OK {
		return nil, fault
	}
	b := wire.Append(nil, 8, t.Start)
	b = appendRuns(b, t.Steps)
	b = appendRuns(b, t.Shifts)
	b = appendList(b, t.Sizes)
	if t.Keys == nil {
		b = append(b, 0)
	} else {
		b = appendList(append(b, 1), t.Keys)
	}
	b = wire.Append(b, 4, len(t.Chunks))
	for _, c := range t.Chunks {
		b = wire.Append(b, 8, c.First, c.Samples)
	}
	return appendList(b, t.Places), api.OK
}

func appendRuns(b []byte, l []api.Run) []byte {
	b = wire.Append(b, 4, len(l))
	for _, r := range l {
		b = wire.Append(b, 8, r.Count, r.Value)
	}
	return b
}

func appendList(b []byte, l []int) []byte {
	return wire.Append(wire.Append(b, 4, len(l)), 8, l...)
}

// ReadTable returns the table of bytes, or the place of what is wrong.
func ReadTable(b []byte) (api.Table, int, api.Fault) {
	if len(b) > api.MaxFile {
		return api.Table{}, 0, api.ErrLarge
	}
	r := readerOf(b)
	t := r.table()
	r.End()
	if r.Stuck {
		return api.Table{}, r.At, api.ErrSyntax
	}
	if fault := CheckTable(t); fault != api.OK {
		return api.Table{}, 0, fault
	}
	return t, 0, api.OK
}

func (r *reader) table() api.Table {
	var t api.Table
	t.Start = r.Number(8)
	t.Steps = r.runs()
	t.Shifts = r.runs()
	t.Sizes = r.list()
	if r.small(1) == 1 {
		t.Keys = append([]int{}, r.list()...)
	}
	for range r.count(16) {
		first, samples := r.Number(8), r.Number(8)
		t.Chunks = append(t.Chunks, api.ChunkRun{First: first, Samples: samples})
	}
	t.Places = r.list()
	return t
}

func (r *reader) runs() []api.Run {
	var l []api.Run
	for range r.count(16) {
		count, value := r.Number(8), r.Number(8)
		l = append(l, api.Run{Count: count, Value: value})
	}
	return l
}

func (r *reader) list() []int {
	var l []int
	for range r.count(8) {
		l = append(l, r.Number(8))
	}
	return l
}
