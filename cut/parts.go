package cut

import (
	"headend/api"
	"headend/check"
	"headend/tick"
)

const (
	maxPiece = 1000000000 // ticks of a piece
	milli    = 1000       // milliseconds of a second
)

// checkTimes validates when segments begin, and how long they are.
func checkTimes(l []api.Segment) api.Fault {
	if len(l) > api.MaxCuts {
		return api.ErrLarge
	}
	for i, s := range l {
		isTime := check.IsTime(s.Begin) && check.IsTime(s.Lead) && check.IsTime(s.Length)
		fault := check.First(
			check.If(!isTime || !check.IsTime(endOf(s)), api.ErrRange),
			check.If(i > 0 && boundOf(s) < boundOf(l[i-1]), api.ErrOrder),
			check.If(s.Length < 0, api.ErrOrder),
		)
		if fault != api.OK {
			return fault
		}
	}
	return api.OK
}

// boundOf returns the boundary with which a segment begins.
func boundOf(s api.Segment) int { return s.Begin + s.Lead }

// endOf returns where a segment ends.
func endOf(s api.Segment) int { return boundOf(s) + s.Length }

// Millis returns the lengths of segments in milliseconds.
func Millis(l []api.Segment, scale int) ([]int, api.Fault) {
	fault := check.First(
		check.If(!check.IsScale(scale), api.ErrRange),
		checkTimes(l),
	)
	if fault != api.OK {
		return nil, fault
	}
	var lengths []int
	for i, s := range l {
		end := endOf(s)
		if i+1 < len(l) {
			end = boundOf(l[i+1])
		}
		lengths = append(lengths, millisOf(end, scale)-millisOf(boundOf(s), scale))
	}
	return lengths, api.OK
}

// millisOf returns the nearest millisecond of a tick.
func millisOf(ticks, scale int) int {
	part, _ := tick.Convert(ticks%scale, scale, milli, api.Near) // the seconds are whole, but may have too many milliseconds for a time
	return ticks/scale*milli + part
}

// Pieces returns the parts of a segment of a rendition, each with as many samples as have no more than so many ticks.
func Pieces(r api.Strand, s api.Segment, target int) ([]api.Piece, api.Fault) {
	fault := check.First(
		checkStrands(r),
		check.If(s.From < 0 || s.To <= s.From || s.To > len(r.Samples), api.ErrRange),
		check.If(!check.Within(target, 1, maxPiece), api.ErrRange),
	)
	if fault != api.OK {
		return nil, fault
	}
	var l []api.Piece
	for i := s.From; i < s.To; i++ {
		x := r.Samples[i]
		last := len(l) - 1
		if last < 0 || l[last].Length+x.Step > target {
			l = append(l, api.Piece{From: i, To: i + 1, Length: x.Step, Free: x.Key})
			continue
		}
		l[last].To = i + 1
		l[last].Length += x.Step
	}
	return l, api.OK
}

// Merged puts each n segments together to one.
func Merged(l []api.Segment, n int) ([]api.Segment, api.Fault) {
	if fault := checkMerged(l, n); fault != api.OK {
		return nil, fault
	}
	var out []api.Segment
	for from := 0; from < len(l); from += n {
		merged := l[from]
		merged.Number /= n
		for _, s := range l[from+1 : min(from+n, len(l))] {
			merged.To = s.To
			merged.Length += s.Length
			merged.Bytes += s.Bytes
		}
		if merged.Length > api.MaxTime || merged.Bytes > api.MaxTime {
			return nil, api.ErrRange
		}
		out = append(out, merged)
	}
	return out, api.OK
}

func checkMerged(l []api.Segment, n int) api.Fault {
	if !check.Within(n, 1, api.MaxCuts) {
		return api.ErrRange
	}
	if len(l) > api.MaxCuts {
		return api.ErrLarge
	}
	for i, s := range l {
		if i > 0 && s.From != l[i-1].To {
			return api.ErrForm
		}
		if i > 0 && !isNext(s.Number, l[i-1].Number) {
			return api.ErrOrder
		}
	}
	if len(l) > 0 && l[0].Number%n != 0 {
		return api.ErrState
	}
	for _, s := range l {
		if !check.Within(s.Length, 0, api.MaxTime) || !check.Within(s.Bytes, 0, api.MaxTime) {
			return api.ErrRange
		}
	}
	return api.OK
}
