package cut

import (
	"headend/api"
	"headend/check"
	"headend/wire"
)

const maxField = 1<<32 - 1 // of four bytes

func checkIndex(l []api.Segment, scale int) api.Fault {
	if !check.IsScale(scale) {
		return api.ErrRange
	}
	if len(l) > api.MaxCuts {
		return api.ErrLarge
	}
	for i, s := range l {
		fault := check.First(
			check.If(!check.Within(s.Number, 0, api.MaxTime), api.ErrRange),
			check.If(!hasBound(s), api.ErrRange),
			check.If(!check.Within(s.Bytes, 0, maxField), api.ErrRange),
			check.If(!check.Within(s.Length, 0, maxField), api.ErrRange),
			check.If(i > 0 && !isNext(s.Number, l[i-1].Number), api.ErrOrder),
			check.If(i > 0 && boundOf(s) != endOf(l[i-1]), api.ErrOrder),
		)
		if fault != api.OK {
			return fault
		}
	}
	return api.OK
}

// hasBound says whether the boundary of a segment is a time. Begin and Lead may be none, and even have a sum of more than 64 bits.
func hasBound(s api.Segment) bool {
	isWhole := (boundOf(s) < s.Begin) == (s.Lead < 0)
	return isWhole && check.IsTime(boundOf(s))
}

// IndexBytes writes segments.
func IndexBytes(l []api.Segment, scale int) ([]byte, api.Fault) {
	if fault := checkIndex(l, scale); fault != api.OK {
		return nil, fault
	}
	number, bound := 0, 0
	if len(l) > 0 {
		number, bound = l[0].Number, boundOf(l[0])
	}
	b := wire.Append(nil, 4, scale)
	b = wire.Append(b, 8, number, bound)
	b = wire.Append(b, 2, len(l))
	for _, s := range l {
		b = wire.Append(b, 4, s.Bytes, s.Length)
	}
	return b, api.OK
}

// ReadIndex returns the segments of bytes, and their scale, or the place of what is wrong.
func ReadIndex(b []byte) ([]api.Segment, int, int, api.Fault) {
	if len(b) > api.MaxIndex {
		return nil, 0, 0, api.ErrLarge
	}
	r := &wire.Reader{Bytes: b}
	scale := r.Number(4)
	number, bound := r.Number(8), r.Number(8)
	l := readSegments(r, r.Number(2), number, bound)
	r.End()
	if r.Stuck {
		return nil, 0, r.At, api.ErrSyntax
	}
	fault := check.First(
		checkIndex(l, scale),
		check.If(len(l) == 0 && (number != 0 || bound != 0), api.ErrForm),
	)
	if fault != api.OK {
		return nil, 0, 0, fault
	}
	return l, scale, 0, api.OK
}

// readSegments takes n segments that follow one another from a number and a boundary on, as far as there are any.
func readSegments(r *wire.Reader, n, number, bound int) []api.Segment {
	var l []api.Segment
	for i := 0; i < n && !r.Stuck; i++ {
		bytes, length := r.Number(4), r.Number(4)
		l = append(l, api.Segment{Number: number + i, Begin: bound, Length: length, Bytes: bytes})
		bound += length
	}
	return l
}
