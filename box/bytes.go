package box

// copied returns the elements of a list in memory of their own.
func copied[E any](l []E) []E {
	return append([]E(nil), l...)
}

// appendNumbers appends numbers with so many bytes each, the most significant one first.
func appendNumbers(b []byte, width int, numbers ...int) []byte {
	for _, n := range numbers {
		for shift := 8 * (width - 1); shift >= 0; shift -= 8 {
			b = append(b, byte(n>>shift))
		}
	}
	return b
}

// numberOf returns the number that bytes are; of eight, one that can be below 0.
func numberOf(b []byte) int {
	n := 0
	for _, digit := range b {
		n = n<<8 | int(digit)
	}
	return n
}

// reader takes numbers from bytes, from a place on. It gets stuck at the first one that is wrong: the place stays where this one begins, and all further numbers are 0.
type reader struct {
	b     []byte
	at    int
	stuck bool
}

func (r *reader) left() int { return len(r.b) - r.at }

// number takes a number of so many bytes.
func (r *reader) number(width int) int {
	if r.stuck || r.left() < width {
		r.stuck = true
		return 0
	}
	n := numberOf(r.b[r.at : r.at+width])
	r.at += width
	return n
}

// signed takes a number of four bytes that can be below 0.
func (r *reader) signed() int { return int(int32(r.number(4))) }

// small takes a number of one byte that has a greatest value.
func (r *reader) small(most int) int {
	n := r.number(1)
	if n > most {
		return r.back(1)
	}
	return n
}

// count takes the number of the elements that follow, which have so many bytes each.
func (r *reader) count(each int) int {
	n := r.number(4)
	if n*each > r.left() {
		return r.back(4)
	}
	return n
}

// back gets stuck at a number that was taken, but is wrong.
func (r *reader) back(width int) int {
	r.at -= width
	r.stuck = true
	return 0
}

// end gets stuck at a byte that is too many.
func (r *reader) end() {
	r.stuck = r.stuck || r.left() > 0
}
