package key

import (
	"slices"

	"headend/wire"
)

const (
	endMark    = 128 // the byte behind the bytes of which a digest is made
	countBytes = 8   // of the number of these bytes
)

// inverted returns a key of which all bits are inverted.
func (k words) inverted() words {
	for i := range k {
		k[i] = ^k[i]
	}
	return k
}

// filled returns bytes with what is put behind them, so that their number can be divided by that of a key.
func filled(b []byte) []byte {
	over := (len(b) + 1 + countBytes) % keyBytes
	zeros := (keyBytes - over) % keyBytes
	return slices.Concat(b, []byte{endMark}, make([]byte, zeros), wire.Append(nil, countBytes, len(b)))
}

// Digest returns 16 bytes that stand for any bytes.
func Digest(b []byte) []byte {
	var first, second uint64 = 0x0001020304050607, 0x08090A0B0C0D0E0F // the bytes 0 to 15
	for piece := range slices.Chunk(filled(b), keyBytes) {
		k := wordsOf(piece)
		first ^= k.encrypt(first)
		second ^= k.inverted().encrypt(second)
	}
	return appendBlock(appendBlock(nil, first), second)
}
