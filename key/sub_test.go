package key_test

import (
	"fmt"
	"math/rand"
	"slices"
	"testing"

	"headend/api"
	"headend/key"
)

// K5: Units
func TestUnits(t *testing.T) {
	for _, c := range []struct {
		what  string
		sizes []int
		keep  int
		want  []api.Sub
	}{
		{"the example", []int{20, 5}, 3, subs(4, 16, 5, 0)},
		{"no sizes", nil, 3, nil},
		{"a keep of 0", []int{1, 7, 8, 9, 15, 16, 17}, 0, subs(1, 0, 7, 0, 0, 8, 1, 8, 7, 8, 0, 16, 1, 16)},
		{"a keep far below a size", []int{24}, 1, subs(8, 16)},
		{"a keep a block below a size", []int{24}, 16, subs(16, 8)},
		{"a keep less than a block below a size", []int{24}, 17, subs(24, 0)},
		{"a keep just below a size", []int{24}, 23, subs(24, 0)},
		{"a keep at a size", []int{24}, 24, subs(24, 0)},
		{"a keep above a size", []int{24, 33}, 25, subs(24, 0, 25, 8)},
		{"the greatest keep", []int{24, 33}, api.MaxCoded, subs(24, 0, 33, 0)},
		{"as many bytes as can be", []int{api.MaxCoded - 4, 4}, 5, subs(12, api.MaxCoded-16, 4, 0)},
	} {
		l, f := key.Units(c.sizes, c.keep)
		is(t, "Units: "+c.what, l, f, c.want)
	}
}

func TestManyUnits(t *testing.T) {
	r := rand.New(rand.NewSource(7))
	for range 2000 {
		var sizes []int
		sum := 0
		for range r.Intn(8) {
			sizes = append(sizes, 1+r.Intn(60))
			sum += sizes[len(sizes)-1]
		}
		keep := r.Intn(50)
		l, f := key.Units(sizes, keep)
		if f != api.OK || len(l) != len(sizes) {
			t.Fatal("Units", sizes, keep, l, f)
		}
		for i, s := range l {
			isMost := s.Protected%8 == 0 && (s.Clear < keep+8 || s.Protected == 0 && s.Clear-keep < 8)
			if s.Clear+s.Protected != sizes[i] || s.Clear < min(keep, sizes[i]) || !isMost {
				t.Error("Units", sizes, keep, l)
			}
		}
		_, f = key.Touched(chainScheme(1, 9), sum, l)
		isFault(t, fmt.Sprint("Touched of Units ", sizes, keep), f, api.OK)
	}
}

// units is what Units is given.
type units struct {
	sizes []int
	keep  int
}

func TestUnitsFaults(t *testing.T) {
	call := func(u units) api.Fault {
		l, f := key.Units(u.sizes, u.keep)
		isWhole(t, "Units", l, f)
		return f
	}
	inOrder(t, "Units", func() units { return units{[]int{api.MaxCoded - 5, 5}, 3} }, call, []wrong[units]{
		{"too many", api.ErrLarge, func(u *units) { u.sizes = make([]int, api.MaxSubs+1) }},
		{"the first size", api.ErrRange, func(u *units) { u.sizes[0] = 0 }},
		{"the second size", api.ErrRange, func(u *units) { u.sizes[1] = api.MaxCoded + 1 }},
		{"keep", api.ErrRange, func(u *units) { u.keep = -1 }},
		{"too many bytes together", api.ErrLarge, func(u *units) { u.sizes = append(u.sizes, 1) }},
	})
	for _, n := range numbers {
		want := map[bool]api.Fault{false: api.ErrRange}
		isFault(t, fmt.Sprint("Units with the size ", n), call(units{[]int{n}, 0}), want[n >= 1 && n <= api.MaxCoded])
		isFault(t, fmt.Sprint("Units with the keep ", n), call(units{[]int{9}, n}), want[n >= 0 && n <= api.MaxCoded])
		isFault(t, fmt.Sprint("Units without sizes, with the keep ", n), call(units{nil, n}), want[n >= 0 && n <= api.MaxCoded])
	}
	isFault(t, "Units with as many as can be", call(units{slices.Repeat([]int{200}, api.MaxSubs), 9}), api.OK)
	isFault(t, "Units with more bytes than can be", call(units{slices.Repeat([]int{201}, api.MaxSubs), 9}), api.ErrLarge)
}

// K5: Fewer
func TestFewer(t *testing.T) {
	for _, c := range []struct {
		what    string
		l, want []api.Sub
	}{
		{"the empty list", nil, nil},
		{"one", subs(3, 8), subs(3, 8)},
		{"one without Protected", subs(3, 0), subs(3, 0)},
		{"one without Clear", subs(0, 8), subs(0, 8)},
		{"some without Protected before another one", subs(3, 0, 4, 0, 1, 16), subs(8, 16)},
		{"one without Protected before one without Clear", subs(3, 0, 0, 16), subs(3, 16)},
		{"a last one without Protected", subs(1, 16, 5, 0), subs(1, 16, 5, 0)},
		{"last ones without Protected", subs(1, 16, 5, 0, 6, 0, 7, 0), subs(1, 16, 18, 0)},
		{"just some without Protected", subs(5, 0, 6, 0), subs(11, 0)},
		{"parts that touch", subs(2, 8, 0, 8, 0, 3), subs(2, 8, 0, 8, 0, 3)},
		{"some everywhere", subs(1, 0, 2, 3, 4, 0, 5, 6, 0, 7, 8, 0), subs(3, 3, 9, 6, 0, 7, 8, 0)},
		{"as many bytes as can be", slices.Repeat(subs(api.MaxCoded, 0), api.MaxSubs), subs(api.MaxCoded*api.MaxSubs, 0)},
		{"as many parts as can be", slices.Repeat(subs(api.MaxCoded, api.MaxCoded), api.MaxSubs), slices.Repeat(subs(api.MaxCoded, api.MaxCoded), api.MaxSubs)},
	} {
		l, f := key.Fewer(c.l)
		is(t, "Fewer of "+c.what, l, f, c.want)
	}
}

// withBytes returns the parts that have bytes.
func withBytes(parts [][]int) [][]int {
	return slices.DeleteFunc(parts, func(part []int) bool { return len(part) == 0 })
}

func TestManyFewer(t *testing.T) {
	r := rand.New(rand.NewSource(8))
	for range 3000 {
		l, size := drawSubs(r)
		fewer, f := key.Fewer(l)
		what := fmt.Sprint("Fewer ", l)
		isFault(t, what, f, api.OK)
		parts := withBytes(protectedParts(l, size))
		is(t, what, withBytes(protectedParts(fewer, size)), f, parts)
		least := len(parts) // one for each, and one for clear bytes behind the last one
		if n := len(l); n > 0 && l[n-1].Protected == 0 {
			least++
		}
		if len(l) == 0 {
			least = 0
		}
		if len(fewer) != least {
			t.Error(what, "has", len(fewer), "not", least)
		}
		again, f := key.Fewer(fewer)
		is(t, what+" again", again, f, fewer)
		s := drawScheme(r)
		b := drawn(r, size)
		want, f := key.Protect(s, someKey, someIv, b, l)
		isFault(t, "Protect", f, api.OK)
		got, f := key.Protect(s, someKey, someIv, b, fewer)
		is(t, "Protect with "+what, got, f, want)
	}
}

func TestFewerFaults(t *testing.T) {
	for _, c := range wrongSubs {
		l, f := key.Fewer(c.l)
		if isSum := c.what == "a byte too few" || c.what == "a byte too many" || c.what == "far too many bytes"; isSum {
			isFault(t, "Fewer: "+c.what, f, api.OK) // it does not know how many bytes there are
			continue
		}
		isNot(t, "Fewer: "+c.what, l, f, c.want)
	}
}
