package mark_test

import (
	"fmt"
	"math"
	"slices"
	"strings"
	"testing"

	"headend/api"
)

// numbers are bounds, and what lies beside them.
var numbers = []int{
	math.MinInt, math.MinInt + 1, -api.MaxTime - 1, -api.MaxTime, -api.Wrapped, -2, -1, 0, 1, 2, 3, 4, 5, 6, 7,
	api.MaxBreaks, api.MaxBreaks + 1, api.MaxValue, api.MaxValue + 1, api.MaxEventId, api.MaxEventId + 1,
	api.Wrapped - 1, api.Wrapped, api.MaxTime - 1, api.MaxTime, api.MaxTime + 1, math.MaxInt - 1, math.MaxInt,
}

// names are some that are none.
var noNames = []string{"", "-", "1a", "A", "a b", "a_", "ä", "a\x00", longName + "a"}

var longName = strings.Repeat("a", api.MaxName)

// text is what a value looks like; nil and an empty list look the same.
func text(v any) string { return fmt.Sprintf("%+v", v) }

func equal(a, b any) bool { return text(a) == text(b) }

// short is the beginning of what a value looks like.
func short(v any) string {
	text := text(v)
	return text[:min(len(text), 600)]
}

// is expects a value without a fault.
func is[V any](t *testing.T, what string, got V, f api.Fault, want V) {
	t.Helper()
	if f != api.OK || !equal(got, want) {
		t.Errorf("%s: got %s with fault %d, want %s", what, short(got), f, short(want))
	}
}

// isNot expects a fault, and a zero value with it.
func isNot[V any](t *testing.T, what string, got V, f, want api.Fault) {
	t.Helper()
	var zero V
	if f != want || !equal(got, zero) {
		t.Errorf("%s: got %s with fault %d, want fault %d", what, short(got), f, want)
	}
}

// isWhole expects a value, or a fault with a zero value.
func isWhole[V any](t *testing.T, what string, got V, f api.Fault) {
	t.Helper()
	if f != api.OK {
		isNot(t, what, got, f, f)
	}
}

// isFault expects a fault, or none.
func isFault(t *testing.T, what string, f, want api.Fault) {
	t.Helper()
	if f != want {
		t.Errorf("%s: fault %d, want %d", what, f, want)
	}
}

// wrong is something that makes a good argument wrong, and the fault with which this is told.
type wrong[V any] struct {
	what   string
	fault  api.Fault
	change func(v *V)
}

// inOrder expects that a function tells each one of some wrong things, and of two of them the first one.
func inOrder[V any](t *testing.T, what string, good func() V, call func(v V) api.Fault, wrongs []wrong[V]) {
	t.Helper()
	isFault(t, what, call(good()), api.OK)
	for i, first := range wrongs {
		v := good()
		first.change(&v)
		isFault(t, what+": "+first.what, call(v), first.fault)
		for _, later := range wrongs[i+1:] {
			v := good()
			later.change(&v)
			first.change(&v)
			isFault(t, what+": "+first.what+" before "+later.what, call(v), first.fault)
		}
	}
}

// kept expects that a call changes nothing of a list, nor of what lies behind it.
func kept[E any](t *testing.T, what string, l []E, call func(l []E) api.Fault) {
	t.Helper()
	room := slices.Concat(l, l)
	before := text(room)
	isFault(t, what, call(room[:len(l)]), api.OK)
	if text(room) != before {
		t.Errorf("%s: its argument was changed, or shares memory with a result", what)
	}
}

// film returns a part of the programme.
func film(from, length int) api.Part { return api.Part{From: from, Length: length} }

// spot returns a part with an advertisement.
func spot(ad string, length int) api.Part { return api.Part{Ad: ad, Length: length} }

func ad(name string, length int) api.Ad { return api.Ad{Name: name, Length: length} }

// broken returns breaks of pairs of Begin and End.
func broken(pairs ...int) []api.Break {
	var l []api.Break
	for i := 0; i+1 < len(pairs); i += 2 {
		l = append(l, api.Break{Event: i / 2, Begin: pairs[i], End: pairs[i+1]})
	}
	return l
}

// tickOf is a tick of a timeline: what is played at it, and from where.
type tickOf struct {
	ad         string
	part, from int
}

// ticksOf returns the ticks of a timeline, one after another.
func ticksOf(l []api.Part) []tickOf {
	var ticks []tickOf
	for i, p := range l {
		for n := range p.Length {
			ticks = append(ticks, tickOf{p.Ad, i, p.From + n})
		}
	}
	return ticks
}
