package wire_test

import (
	"bytes"
	"math"
	"testing"

	"headend/wire"
)

func TestNumbers(t *testing.T) {
	b := wire.Append([]byte{9}, 4, 1, 1<<32-1)
	b = wire.Append(b, 8, -2, math.MinInt)
	b = wire.Append(b, 1)
	want := []byte{9, 0, 0, 0, 1, 255, 255, 255, 255, 255, 255, 255, 255, 255, 255, 255, 254, 128, 0, 0, 0, 0, 0, 0, 0}
	if !bytes.Equal(b, want) {
		t.Error("Append", b)
	}
	for _, n := range []int{0, 1, 255, 256, 1<<32 - 1, math.MaxInt, -1, math.MinInt} {
		if got := wire.Number(wire.Append(nil, 8, n)); got != n {
			t.Error("Number", n, got)
		}
	}
	if got := wire.Number([]byte{128, 1}); got != 128*256+1 {
		t.Error("Number of two bytes", got)
	}
}

func TestReader(t *testing.T) {
	r := wire.Reader{Bytes: []byte{0, 1, 2, 3, 4}}
	if n := r.Number(2); n != 1 || r.At != 2 || r.Left() != 3 || r.Stuck {
		t.Error("Number", n, r)
	}
	if n := r.Number(4); n != 0 || r.At != 2 || !r.Stuck { // not whole
		t.Error("Number", n, r)
	}
	if n := r.Number(1); n != 0 || r.At != 2 || !r.Stuck { // stuck for good
		t.Error("Number", n, r)
	}
}

func TestReaderEnd(t *testing.T) {
	r := wire.Reader{Bytes: []byte{5, 6}}
	r.Number(1)
	whole := r
	whole.Number(1)
	whole.End()
	if whole.Stuck {
		t.Error("End", whole)
	}
	r.End() // a byte is too many
	if !r.Stuck || r.At != 1 {
		t.Error("End", r)
	}
	back := wire.Reader{Bytes: []byte{5, 6}}
	back.Number(1)
	if n := back.Back(1); n != 0 || back.At != 0 || !back.Stuck {
		t.Error("Back", n, back)
	}
}
