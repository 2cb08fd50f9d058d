package key_test

import (
	"fmt"
	"math/rand"
	"slices"
	"testing"

	"headend/key"
)

// xored returns the bytes of a, each xored with that of b.
func xored(a, b []byte) []byte {
	out := slices.Clone(a)
	for i := range out {
		out[i] ^= b[i]
	}
	return out
}

// digested returns the digest of bytes, as the document says it.
func digested(b []byte) []byte {
	l := append(slices.Clone(b), 128)
	for (len(l)+8)%16 != 0 {
		l = append(l, 0)
	}
	l = append(l, 0, 0, 0, 0)
	l = append(l, fourBytes(len(b))...)
	first, second := []byte{0, 1, 2, 3, 4, 5, 6, 7}, []byte{8, 9, 10, 11, 12, 13, 14, 15}
	for ; len(l) > 0; l = l[16:] {
		p := l[:16]
		inverted := make([]byte, 16)
		for i := range inverted {
			inverted[i] = 255 - p[i]
		}
		first = xored(encrypted(p, first, 16), first)
		second = xored(encrypted(inverted, second, 16), second)
	}
	return slices.Concat(first, second)
}

// K3
func TestDigest(t *testing.T) {
	for _, c := range []struct{ b, want string }{
		{"", "80468763ecb0162b3605f6ae753487de"},
		{"a", "f4bb811aea08017c11fc77634c2d2315"},
		{"abc", "65306f7aa6af609156b583f0c263fcd4"},
		{"1234567", "a32fb3920b3363a757cbe67fab1e40f7"},  // just one piece
		{"12345678", "42946499070d7b4a8a68fc21c205fb80"}, // as many zeros as can be
		{"123456789012345", "fff45e8800302b446df67010a9a007e6"},
		{"1234567890123456", "0d389240f3493c332e7c7b555e207765"},
		{"12345678901234567890123", "7a0edbe1d774146fd8ffe20768f3a7d0"},
		{"123456789012345678901234", "095a31a5c681bb8669b699aa15cb6e31"},
		{string(make([]byte, 1000)), "b631600ef7bd937322c94e5bba64d5a4"},
	} {
		if got := key.Digest([]byte(c.b)); !equal(got, unhex(c.want)) {
			t.Errorf("Digest of %q: %x", c.b, got)
		}
	}
}

func TestManyDigests(t *testing.T) {
	r := rand.New(rand.NewSource(4))
	for n := range 100 {
		for range 5 {
			b := drawn(r, n)
			if got := key.Digest(b); len(got) != 16 || !equal(got, digested(b)) {
				t.Errorf("Digest of %x: %x", b, got)
			}
		}
	}
	for _, n := range []int{255, 256, 257, 65535, 65536, 200000} {
		if got := key.Digest(counting(n)); !equal(got, digested(counting(n))) {
			t.Errorf("Digest of %d bytes: %x", n, got)
		}
	}
}

// Bytes that differ just in what is put behind others have digests of their own.
func TestDigestsDiffer(t *testing.T) {
	seen := map[string]string{}
	for n := range 40 {
		for _, b := range [][]byte{make([]byte, n), append(make([]byte, n), 128), append(make([]byte, n), 128, 0), append(make([]byte, n), 1)} {
			digest := string(key.Digest(b))
			what := fmt.Sprint(b)
			if other, isSeen := seen[digest]; isSeen && other != what {
				t.Error("one digest of", b, "and", other)
			}
			seen[digest] = what
		}
	}
}
