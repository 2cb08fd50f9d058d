package key

import (
	"slices"

	"headend/api"
	"headend/check"
	"headend/wire"
)

const (
	keyBytes   = 16
	wordBytes  = 4
	blockBytes = 8

	byteBits = 8
	wordBits = 32

	rounds = 16
	stride = 2654435769
	ending = rounds * stride % (1 << wordBits) // the sum of the strides of all rounds
)

// words are the numbers of a key.
type words [keyBytes / wordBytes]uint32

func wordsOf(key []byte) words {
	var k words
	for i := range k {
		k[i] = uint32(wire.Number(key[i*wordBytes : (i+1)*wordBytes]))
	}
	return k
}

// blockOf returns the number that the bytes of a block are.
func blockOf(b []byte) uint64 { return uint64(wire.Number(b)) }

func appendBlock(b []byte, block uint64) []byte { return wire.Append(b, blockBytes, int(block)) }

func halves(block uint64) (a, b uint32) { return uint32(block >> wordBits), uint32(block) }

func joined(a, b uint32) uint64 { return uint64(a)<<wordBits | uint64(b) }

func mix(x uint32) uint32 { return (x*16 ^ x/32) + x }

// early and late return what the key adds to the first, and to the second half of a block.
func (k words) early(sum uint32) uint32 { return sum + k[sum%4] }

func (k words) late(sum uint32) uint32 { return sum + k[sum/2048%4] }

func (k words) encrypt(block uint64) uint64 {
	a, b := halves(block)
	var sum uint32
	for range rounds {
		a += mix(b) ^ k.early(sum)
		sum += stride
		b += mix(a) ^ k.late(sum)
	}
	return joined(a, b)
}

func (k words) decrypt(block uint64) uint64 {
	a, b := halves(block)
	var sum uint32 = ending
	for range rounds {
		b -= mix(a) ^ k.late(sum)
		sum -= stride
		a -= mix(b) ^ k.early(sum)
	}
	return joined(a, b)
}

// eachBlock returns bytes of which every whole block is replaced, one after another; those after the last one stay.
func eachBlock(b []byte, replace func(block uint64) uint64) []byte {
	replaced := make([]byte, 0, len(b))
	for ; len(b) >= blockBytes; b = b[blockBytes:] {
		replaced = appendBlock(replaced, replace(blockOf(b[:blockBytes])))
	}
	return append(replaced, b...)
}

// EncryptBlock encrypts a block.
func EncryptBlock(key, b []byte) ([]byte, api.Fault) {
	if fault := checkBlock(key, b); fault != api.OK {
		return nil, fault
	}
	return eachBlock(b, wordsOf(key).encrypt), api.OK
}

// DecryptBlock returns the block of which another one is made.
func DecryptBlock(key, b []byte) ([]byte, api.Fault) {
	if fault := checkBlock(key, b); fault != api.OK {
		return nil, fault
	}
	return eachBlock(b, wordsOf(key).decrypt), api.OK
}

// checkBlock validates a key, and a block or an iv.
func checkBlock(key, b []byte) api.Fault {
	return check.First(
		check.If(len(key) != keyBytes, api.ErrForm),
		check.If(len(b) != blockBytes, api.ErrForm),
	)
}

// checkCoded validates what is needed to encrypt bytes.
func checkCoded(key, iv, b []byte) api.Fault {
	return check.First(
		checkBlock(key, iv),
		check.If(len(b) > api.MaxCoded, api.ErrLarge),
	)
}

// cipher is a key, with the iv with which its modes begin.
type cipher struct {
	key words
	iv  uint64
}

func cipherOf(key, iv []byte) cipher { return cipher{wordsOf(key), blockOf(iv)} }

// coding is how bytes are encrypted, or decrypted, which become as many others.
type coding func(b []byte) []byte

// counter returns how bytes are encrypted, and decrypted, from a place of the stream on.
func (c cipher) counter(from int) coding {
	return func(b []byte) []byte {
		mixed := slices.Clone(b)
		var block uint64
		for i := range mixed {
			number, place := (from+i)/blockBytes, (from+i)%blockBytes
			if i == 0 || place == 0 {
				block = c.key.encrypt(c.iv + uint64(number))
			}
			mixed[i] ^= byte(block >> (byteBits * (blockBytes - 1 - place)))
		}
		return mixed
	}
}

func (c cipher) chain(b []byte) []byte {
	before := c.iv
	return eachBlock(b, func(block uint64) uint64 {
		before = c.key.encrypt(block ^ before)
		return before
	})
}

func (c cipher) unchain(b []byte) []byte {
	before := c.iv
	return eachBlock(b, func(block uint64) uint64 {
		plain := c.key.decrypt(block) ^ before
		before = block
		return plain
	})
}

// Counter encrypts bytes, and decrypts them, with a stream, from a place of it on.
func Counter(key, iv, b []byte, from int) ([]byte, api.Fault) {
	fault := check.First(
		checkCoded(key, iv, b),
		check.If(!isMoment(from), api.ErrRange),
	)
	if fault != api.OK {
		return nil, fault
	}
	return cipherOf(key, iv).counter(from)(b), api.OK
}

// Chain encrypts the whole blocks of bytes, each one with the encrypted one before it.
func Chain(key, iv, b []byte) ([]byte, api.Fault) {
	if fault := checkCoded(key, iv, b); fault != api.OK {
		return nil, fault
	}
	return cipherOf(key, iv).chain(b), api.OK
}

// Unchain takes Chain back.
func Unchain(key, iv, b []byte) ([]byte, api.Fault) {
	if fault := checkCoded(key, iv, b); fault != api.OK {
		return nil, fault
	}
	return cipherOf(key, iv).unchain(b), api.OK
}
