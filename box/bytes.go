package box

import "headend/wire"

// copied returns the elements of a list in memory of their own.
func copied[E any](l []E) []E {
	return append([]E(nil), l...)
}

// reader takes the parts of containers from bytes.
type reader struct{ wire.Reader }

func readerOf(b []byte) *reader {
	return &reader{wire.Reader{Bytes: b}}
}

// signed takes a number of four bytes that can be below 0.
func (r *reader) signed() int { return int(int32(r.Number(4))) }

// small takes a number of one byte that has a greatest value.
func (r *reader) small(most int) int {
	n := r.Number(1)
	if n > most {
		return r.Back(1)
	}
	return n
}

// count takes the number of the elements that follow, which have so many bytes each.
func (r *reader) count(each int) int {
	n := r.Number(4)
	if n*each > r.Left() {
		return r.Back(4)
	}
	return n
}
