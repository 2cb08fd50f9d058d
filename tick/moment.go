package tick

import "cmp"

// unit is how many seconds a moment counts at once: so many that the sum of four numbers of 64 bits has no more units than that, whatever the scale.
const unit = 4

// Moment is ticks divided by their scale: units, and rest / scale of a second, less than a unit.
type Moment struct{ units, rest, scale int }

// MomentOf returns the sum of at most four numbers of ticks, divided by their scale, also where the sum has more than 64 bits.
func MomentOf(scale int, ticks ...int) Moment {
	by := unit * scale
	units, rests := 0, 0
	for _, n := range ticks {
		whole, rest := n/by, n%by
		if rest < 0 {
			whole, rest = whole-1, rest+by
		}
		units, rests = units+whole, rests+rest
	}
	return Moment{units: units + rests/by, rest: rests % by, scale: scale}
}

// Compare returns -1 if a moment is before another one, 1 if it is after it, and 0 if both are the same.
func (m Moment) Compare(other Moment) int {
	return cmp.Or(cmp.Compare(m.units, other.units), cmp.Compare(m.rest*other.scale, other.rest*m.scale))
}
