package mark

const byteBits = 8

// row is bits that are written one behind another, the highest one of a byte first.
type row struct {
	bytes []byte
	count int
}

// put writes a number with so many bits.
func (r *row) put(n, width int) {
	for shift := width - 1; shift >= 0; shift-- {
		if r.count%byteBits == 0 {
			r.bytes = append(r.bytes, 0)
		}
		bit := byte(n>>shift) & 1
		r.bytes[r.count/byteBits] |= bit << (byteBits - 1 - r.count%byteBits)
		r.count++
	}
}

// numberAt returns the number that is so many bits from a place on; those behind the end are 0.
func numberAt(b []byte, place, width int) int {
	n := 0
	for ; width > 0; width-- {
		n <<= 1
		if place/byteBits < len(b) {
			n |= int(b[place/byteBits]>>(byteBits-1-place%byteBits)) & 1
		}
		place++
	}
	return n
}

// leftAt returns how many bits there are from a place on, until the next byte begins.
func leftAt(place int) int { return (byteBits - place%byteBits) % byteBits }

// ones returns the number that is so many bits of 1.
func ones(width int) int { return 1<<width - 1 }
