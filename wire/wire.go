// Package wire writes numbers as bytes, and reads them, the most significant byte first.
package wire

// Append appends numbers with so many bytes each.
func Append(b []byte, width int, numbers ...int) []byte {
	for _, n := range numbers {
		for shift := 8 * (width - 1); shift >= 0; shift -= 8 {
			b = append(b, byte(n>>shift))
		}
	}
	return b
}

// Number returns the number that bytes are; of eight, one that can be below 0.
func Number(b []byte) int {
	n := 0
	for _, digit := range b {
		n = n<<8 | int(digit)
	}
	return n
}

// Reader takes numbers from bytes, from a place on. It gets stuck at the first one that is wrong: the place stays where this one begins, and all further numbers are 0.
type Reader struct {
	Bytes []byte
	At    int
	Stuck bool
}

// Left returns how many bytes are not yet taken.
func (r *Reader) Left() int { return len(r.Bytes) - r.At }

// Number takes a number of so many bytes.
func (r *Reader) Number(width int) int {
	if r.Stuck || r.Left() < width {
		r.Stuck = true
		return 0
	}
	n := Number(r.Bytes[r.At : r.At+width])
	r.At += width
	return n
}

// Back gets stuck at a number that was taken, but is wrong.
func (r *Reader) Back(width int) int {
	r.At -= width
	r.Stuck = true
	return 0
}

// End gets stuck at a byte that is too many.
func (r *Reader) End() {
	r.Stuck = r.Stuck || r.Left() > 0
}
