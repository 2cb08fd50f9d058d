package cut

import (
	"math"

	"headend/api"
	"headend/box"
	"headend/tick"
)

// Fits says whether segments of renditions fit together, or the numbers of a rendition and of its segment that do not.
func Fits(l []api.Strand, segments [][]api.Segment) (int, int, api.Fault) {
	if fault := CheckRenditions(l); fault != api.OK {
		return 0, 0, fault
	}
	if len(segments) != len(l) {
		return 0, 0, api.ErrForm
	}
	lead := segments[0]
	for i, r := range l {
		own := segments[i]
		if len(own) == 0 || len(own) != len(lead) {
			return i, 0, api.ErrForm
		}
		for k := range own {
			at := tick.MomentOf(l[0].Scale, lead[k].Begin, lead[k].Lead)
			if fault := fitsAt(r, own, k, lead[k].Number, at); fault != api.OK {
				return i, k, fault
			}
		}
	}
	return 0, 0, api.OK
}

// fitsAt says what is wrong with a segment of a rendition, which must have a number and begin at a moment; those before it are right.
func fitsAt(r api.Strand, l []api.Segment, k, number int, at tick.Moment) api.Fault {
	s, from := l[k], 0
	if k > 0 {
		from = l[k-1].To
	}
	switch {
	case s.From != from || s.To <= s.From || s.To > len(r.Samples):
		return api.ErrRange
	case k > 0 && !isNext(s.Number, l[k-1].Number):
		return api.ErrOrder
	case s.Number != number:
		return api.ErrType
	case !beginsAt(r, s, at):
		return api.ErrClash
	case s.Bytes != box.BytesOf(r.Samples[s.From:s.To]):
		return api.ErrForm
	case k == len(l)-1 && s.To != len(r.Samples):
		return api.ErrRange
	}
	return api.OK
}

// isNext says whether a number is 1 more than the one before it.
func isNext(number, before int) bool {
	return before < math.MaxInt && number == before+1
}

// beginsAt says whether a segment of a rendition begins at a moment; one that is Sound less than a tick before it, or, if it has no Lead, also later.
func beginsAt(r api.Strand, s api.Segment, at tick.Moment) bool {
	begin := tick.MomentOf(r.Scale, s.Begin, s.Lead)
	if !r.Sound {
		return begin.Compare(at) == 0
	}
	late := begin.Compare(at) > 0 && s.Lead != 0
	return !late && tick.MomentOf(r.Scale, s.Begin, s.Lead, 1).Compare(at) > 0
}
