package key_test

import (
	"bytes"
	"fmt"
	"math/big"
	"math/rand"
	"slices"
	"testing"

	"headend/api"
	"headend/key"
)

// numberOf returns the number that bytes are, the most significant one first.
func numberOf(b []byte) int {
	n := 0
	for _, digit := range b {
		n = n*256 + int(digit)
	}
	return n
}

func fourBytes(n int) []byte {
	return []byte{byte(n / (1 << 24)), byte(n / (1 << 16)), byte(n / (1 << 8)), byte(n)}
}

// encrypted returns what a block becomes in so many rounds, as the document says it.
func encrypted(key, b []byte, rounds int) []byte {
	const modulus = 1 << 32
	var k [4]int
	for i := range k {
		k[i] = numberOf(key[4*i : 4*i+4])
	}
	f := func(x int) int { return ((x * 16 % modulus) ^ (x / 32)) + x }
	first, second, s := numberOf(b[:4]), numberOf(b[4:]), 0
	for range rounds {
		first = (first + (f(second)%modulus ^ (s+k[s%4])%modulus)) % modulus
		s = (s + 2654435769) % modulus
		second = (second + (f(first)%modulus ^ (s+k[s/2048%4])%modulus)) % modulus
	}
	return slices.Concat(fourBytes(first), fourBytes(second))
}

// With twice as many rounds the cipher is XTEA, of which these blocks are published.
func TestPublishedBlocks(t *testing.T) {
	ordered := "000102030405060708090a0b0c0d0e0f"
	zero := "00000000000000000000000000000000"
	for _, c := range []struct{ key, block, want string }{
		{ordered, "4142434445464748", "497df3d072612cb5"},
		{ordered, "4141414141414141", "e78f2d13744341d8"},
		{zero, "4142434445464748", "a0390589f8b8efa5"},
		{zero, "4141414141414141", "ed23375a821a8c2d"},
	} {
		if got := encrypted(unhex(c.key), unhex(c.block), 32); !bytes.Equal(got, unhex(c.want)) {
			t.Errorf("32 rounds of %v: %x", c, got)
		}
	}
}

// blocks are keys, blocks, and what these become; with bytes 255 all sums pass 2^32.
var blocks = []struct{ key, block, want string }{
	{"000102030405060708090a0b0c0d0e0f", "4142434445464748", "dea0b0b40966b066"},
	{"000102030405060708090a0b0c0d0e0f", "0000000000000000", "9fbae58ab503765f"},
	{"000102030405060708090a0b0c0d0e0f", "ffffffffffffffff", "4ea6e7ac90770932"},
	{"00000000000000000000000000000000", "4142434445464748", "eafc4733d2e1b425"},
	{"00000000000000000000000000000000", "0000000000000000", "2a72a5941072425f"},
	{"00000000000000000000000000000000", "ffffffffffffffff", "98d24d77cb267075"},
	{"ffffffffffffffffffffffffffffffff", "4142434445464748", "673c55aaf511aa51"},
	{"ffffffffffffffffffffffffffffffff", "0000000000000000", "c893b54cc4b221fe"},
	{"ffffffffffffffffffffffffffffffff", "ffffffffffffffff", "d0dd1cc886e0a2da"},
	{"30313233343536373839616263646566", "3820627974657321", "1658dd229293a2f4"},
}

// K1
func TestBlocks(t *testing.T) {
	for _, c := range blocks {
		b, f := key.EncryptBlock(unhex(c.key), unhex(c.block))
		is(t, "EncryptBlock "+c.block, b, f, unhex(c.want))
		b, f = key.DecryptBlock(unhex(c.key), unhex(c.want))
		is(t, "DecryptBlock "+c.want, b, f, unhex(c.block))
	}
}

func TestManyBlocks(t *testing.T) {
	r := rand.New(rand.NewSource(1))
	for range 5000 {
		k, b := drawn(r, 16), drawn(r, 8)
		c, f := key.EncryptBlock(k, b)
		is(t, fmt.Sprintf("EncryptBlock %x %x", k, b), c, f, encrypted(k, b, 16))
		d, f := key.DecryptBlock(k, c)
		is(t, fmt.Sprintf("DecryptBlock %x %x", k, c), d, f, b)
		d, f = key.DecryptBlock(k, b)
		isFault(t, "DecryptBlock", f, api.OK)
		c, f = key.EncryptBlock(k, d)
		is(t, fmt.Sprintf("EncryptBlock of DecryptBlock %x %x", k, b), c, f, b)
	}
}

func TestBlockFaults(t *testing.T) {
	for name, call := range map[string]func(k, b []byte) ([]byte, api.Fault){"EncryptBlock": key.EncryptBlock, "DecryptBlock": key.DecryptBlock} {
		for _, n := range []int{0, 1, 4, 8, 15, 17, 24, 32} {
			b, f := call(make([]byte, n), someIv)
			isNot(t, fmt.Sprint(name, " with a key of ", n), b, f, api.ErrForm)
		}
		for _, n := range []int{0, 1, 4, 7, 9, 15, 16} {
			b, f := call(someKey, make([]byte, n))
			isNot(t, fmt.Sprint(name, " with a block of ", n), b, f, api.ErrForm)
		}
	}
}

// streamed returns bytes xored with the stream, as the document says it.
func streamed(k, iv, b []byte, from int) []byte {
	out := slices.Clone(b)
	modulus := new(big.Int).Lsh(big.NewInt(1), 64)
	for i := range out {
		number := new(big.Int).SetBytes(iv)
		number.Add(number, big.NewInt(int64((from+i)/8)))
		number.Mod(number, modulus)
		out[i] ^= encrypted(k, number.FillBytes(make([]byte, 8)), 16)[(from+i)%8]
	}
	return out
}

var (
	sentence = []byte("twenty bytes of text")
	lastIv   = bytes.Repeat([]byte{255}, 8)
)

// K2: Counter
func TestCounter(t *testing.T) {
	for _, c := range []struct {
		what string
		iv   []byte
		from int
		want string
	}{
		{"from the beginning on", someIv, 0, "622fb84ce6ea8296108b6939609de8c54188a04e"},
		{"from within a block", someIv, 5, "e7d591078b756a228bfa8046cdb75c9c7940b1ca"},
		{"with an iv that passes 2^64", lastIv, 0, "d25a4e02f7f57037b73f6be95314c7bb44f3df39"},
		{"from far behind the first block", lastIv, api.MaxTime, "f324a0e913dff68832c340d00e50355766b6d7b0"},
	} {
		b, f := key.Counter(someKey, c.iv, sentence, c.from)
		is(t, "Counter "+c.what, b, f, unhex(c.want))
		b, f = key.Counter(someKey, c.iv, b, c.from)
		is(t, "Counter twice "+c.what, b, f, sentence)
	}
	b, f := key.Counter(someKey, lastIv, make([]byte, 16), 0)
	is(t, "Counter of zeros", b, f, slices.Concat(encrypted(someKey, lastIv, 16), encrypted(someKey, make([]byte, 8), 16)))
}

func TestManyCounters(t *testing.T) {
	r := rand.New(rand.NewSource(2))
	for _, iv := range [][]byte{someIv, make([]byte, 8), lastIv, {255, 255, 255, 255, 255, 255, 255, 253}, {0, 0, 0, 0, 255, 255, 255, 255}} {
		for _, n := range []int{0, 1, 7, 8, 9, 15, 16, 17, 40} {
			for _, from := range []int{0, 1, 7, 8, 9, 15, 16, 17, 100, api.MaxTime - 1, api.MaxTime} {
				k, b := drawn(r, 16), drawn(r, n)
				what := fmt.Sprintf("Counter of %d bytes with %x from %d", n, iv, from)
				got, f := key.Counter(k, iv, b, from)
				is(t, what, got, f, streamed(k, iv, b, from))
				again, f := key.Counter(k, iv, got, from)
				is(t, what+" twice", again, f, b)
			}
		}
	}
}

// What is encrypted piece by piece is what is encrypted at once.
func TestCounterInPieces(t *testing.T) {
	b := counting(50)
	whole, f := key.Counter(someKey, lastIv, b, 3)
	isFault(t, "Counter", f, api.OK)
	for n := range len(b) + 1 {
		before, f := key.Counter(someKey, lastIv, b[:n], 3)
		isFault(t, "Counter", f, api.OK)
		behind, f := key.Counter(someKey, lastIv, b[n:], 3+n)
		is(t, fmt.Sprint("Counter in pieces at ", n), slices.Concat(before, behind), f, whole)
	}
}

// chained returns bytes whose blocks are encrypted, as the document says it.
func chained(k, iv, b []byte) []byte {
	var out []byte
	before := iv
	for len(b) >= 8 {
		mixed := make([]byte, 8)
		for i := range mixed {
			mixed[i] = b[i] ^ before[i]
		}
		before = encrypted(k, mixed, 16)
		out = append(out, before...)
		b = b[8:]
	}
	return append(out, b...)
}

// K2: Chain and Unchain
func TestChain(t *testing.T) {
	one := unhex("1658dd229293a2f4") // the block of someIv
	for _, c := range []struct {
		what    string
		iv      []byte
		b, want []byte
	}{
		{"no bytes", someIv, nil, nil},
		{"fewer bytes than a block", someIv, []byte("seven b"), []byte("seven b")},
		{"one whole block", make([]byte, 8), someIv, one},
		{"one whole block and a byte", make([]byte, 8), append(slices.Clone(someIv), 7), append(slices.Clone(one), 7)},
		{"one whole block that the iv makes", someIv, make([]byte, 8), one},
		{"the same twice", make([]byte, 8), slices.Concat(someIv, []byte{0x2e, 0x78, 0xbf, 0x5b, 0xe6, 0xf6, 0xd1, 0xd5}), slices.Concat(one, one)},
		{"bytes after the last whole block", someIv, sentence, unhex("f36aa4826df953fe6a46888ce513aea474657874")},
	} {
		b, f := key.Chain(someKey, c.iv, c.b)
		is(t, "Chain: "+c.what, b, f, c.want)
		b, f = key.Unchain(someKey, c.iv, c.want)
		is(t, "Unchain: "+c.what, b, f, c.b)
	}
}

func TestManyChains(t *testing.T) {
	r := rand.New(rand.NewSource(3))
	for n := range 70 {
		for range 10 {
			k, iv, b := drawn(r, 16), drawn(r, 8), drawn(r, n)
			what := fmt.Sprintf("of %x with %x", b, iv)
			c, f := key.Chain(k, iv, b)
			is(t, "Chain "+what, c, f, chained(k, iv, b))
			d, f := key.Unchain(k, iv, c)
			is(t, "Unchain of Chain "+what, d, f, b)
			d, f = key.Unchain(k, iv, b)
			isFault(t, "Unchain", f, api.OK)
			is(t, "Chain of Unchain "+what, chained(k, iv, d), f, b)
		}
	}
}

// As many bytes as can be.
func TestMaxCoded(t *testing.T) {
	b := counting(api.MaxCoded)
	c, f := key.Counter(someKey, someIv, b, 1)
	is(t, "Counter of as many as can be", c, f, streamed(someKey, someIv, b, 1))
	c, f = key.Chain(someKey, someIv, b)
	is(t, "Chain of as many as can be", c, f, chained(someKey, someIv, b))
	d, f := key.Unchain(someKey, someIv, c)
	is(t, "Unchain of as many as can be", d, f, b)
}

// coded is what the modes are given.
type coded struct {
	key, iv, b []byte
	from       int
}

func someCoded() coded { return coded{slices.Clone(someKey), slices.Clone(someIv), sentence, 3} }

// codedWrongs are the errors of all modes.
var codedWrongs = []wrong[coded]{
	{"a key of 15 bytes", api.ErrForm, func(c *coded) { c.key = c.key[:15] }},
	{"an iv of 9 bytes", api.ErrForm, func(c *coded) { c.iv = append(c.iv, 0) }},
	{"too many bytes", api.ErrLarge, func(c *coded) { c.b = make([]byte, api.MaxCoded+1) }},
}

func TestModeFaults(t *testing.T) {
	modes := map[string]func(c coded) ([]byte, api.Fault){
		"Counter": func(c coded) ([]byte, api.Fault) { return key.Counter(c.key, c.iv, c.b, c.from) },
		"Chain":   func(c coded) ([]byte, api.Fault) { return key.Chain(c.key, c.iv, c.b) },
		"Unchain": func(c coded) ([]byte, api.Fault) { return key.Unchain(c.key, c.iv, c.b) },
	}
	for name, mode := range modes {
		call := func(c coded) api.Fault {
			b, f := mode(c)
			isWhole(t, name, b, f)
			return f
		}
		wrongs := codedWrongs
		if name == "Counter" {
			wrongs = slices.Concat(wrongs, []wrong[coded]{{"from", api.ErrRange, func(c *coded) { c.from = -1 }}})
		}
		inOrder(t, name, someCoded, call, wrongs)
		for _, n := range []int{0, 1, 8, 15, 17, 32} {
			isFault(t, fmt.Sprint(name, " with a key of ", n), call(coded{make([]byte, n), someIv, sentence, 0}), api.ErrForm)
		}
		for _, n := range []int{0, 1, 7, 9, 16} {
			isFault(t, fmt.Sprint(name, " with an iv of ", n), call(coded{someKey, make([]byte, n), sentence, 0}), api.ErrForm)
		}
	}
	for _, from := range numbers {
		b, f := key.Counter(someKey, someIv, sentence, from)
		if from < 0 || from > api.MaxTime {
			isNot(t, fmt.Sprint("Counter from ", from), b, f, api.ErrRange)
		} else {
			is(t, fmt.Sprint("Counter from ", from), b, f, streamed(someKey, someIv, sentence, from))
		}
	}
}
