package key_test

import (
	"bytes"
	"encoding/hex"
	"fmt"
	"math"
	"math/rand"
	"slices"
	"strings"
	"testing"

	"headend/api"
)

// numbers are bounds, and what lies beside them.
var numbers = []int{
	math.MinInt, math.MinInt + 1, -api.MaxTime - 1, -api.MaxTime, -2, -1, 0, 1, 2, 3, 7, 8, 9, 10, 11, 16,
	api.MaxAtOnce, api.MaxAtOnce + 1, api.MaxHeight, api.MaxHeight + 1, api.MaxCoded, api.MaxCoded + 1,
	api.MaxPeriods, api.MaxPeriods + 1, api.MaxPeriods + 2, api.MaxTime - 1, api.MaxTime, api.MaxTime + 1, math.MaxInt - 1, math.MaxInt,
}

// noNames are some that are none.
var noNames = []string{"", "-", "1a", "A", "a b", "a_", "ä", "a\x00", longName + "a"}

var longName = strings.Repeat("a", api.MaxName)

// text is what a value looks like; nil and an empty list look the same.
func text(v any) string { return fmt.Sprintf("%+v", v) }

func equal(a, b any) bool { return text(a) == text(b) }

// short is the beginning of what a value looks like.
func short(v any) string {
	text := text(v)
	return text[:min(len(text), 600)]
}

// is expects a value without a fault.
func is[V any](t *testing.T, what string, got V, f api.Fault, want V) {
	t.Helper()
	if f != api.OK || !equal(got, want) {
		t.Errorf("%s: got %s with fault %d, want %s", what, short(got), f, short(want))
	}
}

// isNot expects a fault, and a zero value with it.
func isNot[V any](t *testing.T, what string, got V, f, want api.Fault) {
	t.Helper()
	var zero V
	if f != want || !equal(got, zero) {
		t.Errorf("%s: got %s with fault %d, want fault %d", what, short(got), f, want)
	}
}

// isWhole expects a value, or a fault with a zero value.
func isWhole[V any](t *testing.T, what string, got V, f api.Fault) {
	t.Helper()
	if f != api.OK {
		isNot(t, what, got, f, f)
	}
}

// isFault expects a fault, or none.
func isFault(t *testing.T, what string, f, want api.Fault) {
	t.Helper()
	if f != want {
		t.Errorf("%s: fault %d, want %d", what, f, want)
	}
}

// wrong is something that makes a good argument wrong, and the fault with which this is told.
type wrong[V any] struct {
	what   string
	fault  api.Fault
	change func(v *V)
}

// inOrder expects that a function tells each one of some wrong things, and of two of them the first one.
func inOrder[V any](t *testing.T, what string, good func() V, call func(v V) api.Fault, wrongs []wrong[V]) {
	t.Helper()
	isFault(t, what, call(good()), api.OK)
	for i, first := range wrongs {
		v := good()
		first.change(&v)
		isFault(t, what+": "+first.what, call(v), first.fault)
		for _, later := range wrongs[i+1:] {
			v := good()
			later.change(&v)
			first.change(&v)
			isFault(t, what+": "+first.what+" before "+later.what, call(v), first.fault)
		}
	}
}

// kept expects that a call changes nothing of a list, nor of what lies behind it.
func kept[E any](t *testing.T, what string, l []E, call func(l []E) api.Fault) {
	t.Helper()
	room := slices.Concat(l, l)
	before := text(room)
	isFault(t, what, call(room[:len(l)]), api.OK)
	if text(room) != before {
		t.Errorf("%s: its argument was changed, or shares memory with a result", what)
	}
}

// unhex returns the bytes that hexadecimal digits say.
func unhex(digits string) []byte {
	b, err := hex.DecodeString(digits)
	if err != nil {
		panic(err)
	}
	return b
}

// drawn returns so many bytes, some of which are all alike.
func drawn(r *rand.Rand, n int) []byte {
	b := make([]byte, n)
	switch r.Intn(8) {
	case 0:
	case 1:
		return bytes.Repeat([]byte{255}, n)
	default:
		r.Read(b)
	}
	return b
}

// counting returns so many bytes 1, 2, 3 ..
func counting(n int) []byte {
	b := make([]byte, n)
	for i := range b {
		b[i] = byte(i + 1)
	}
	return b
}

var (
	someKey = []byte("0123456789abcdef")
	someIv  = []byte("8 bytes!")
)
