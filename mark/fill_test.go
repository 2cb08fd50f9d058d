package mark_test

import (
	"fmt"
	"math/rand"
	"slices"
	"testing"

	"headend/api"
	"headend/mark"
)

// choice is what Fill returns.
type choice struct {
	numbers []int
	value   int
}

// worth returns advertisements of pairs of Length and Value.
func worth(pairs ...int) []api.Ad {
	var l []api.Ad
	for i := 0; i+1 < len(pairs); i += 2 {
		l = append(l, api.Ad{Name: fmt.Sprint("a", i/2), Length: pairs[i], Value: pairs[i+1]})
	}
	return l
}

// rivals gives advertisements their Rivals.
func rivals(l []api.Ad, names ...string) []api.Ad {
	for i, name := range names {
		l[i].Rival = name
	}
	return l
}

func TestFill(t *testing.T) {
	most := slices.Repeat([]int{api.MaxTime / api.MaxAds, api.MaxValue}, api.MaxAds)
	all := []int{0, 1, 2, 3, 4, 5, 6, 7, 8, 9, 10, 11, 12, 13, 14, 15}
	for _, c := range []struct {
		what   string
		ads    []api.Ad
		length int
		want   choice
	}{
		{"the example", worth(30, 5, 20, 4, 20, 4, 20, 3), 60, choice{[]int{1, 2, 3}, 11}},
		{"nothing", nil, 60, choice{}},
		{"a length of 0", worth(1, 5), 0, choice{}},
		{"what does not fit", worth(61, 5, 100, 9), 60, choice{}},
		{"some that do not fit", worth(61, 5, 7, 1, api.MaxTime, 9), 60, choice{[]int{1}, 1}},
		{"what just fits", worth(30, 5, 30, 5), 60, choice{[]int{0, 1}, 10}},
		{"what just does not fit", worth(30, 5, 30, 5), 59, choice{[]int{0}, 5}},
		{"the second one is worth more", worth(30, 5, 30, 6), 59, choice{[]int{1}, 6}},
		{"the greatest value, not the greatest length", worth(60, 5, 10, 6), 60, choice{[]int{1}, 6}},
		{"the same value, another length", worth(10, 5, 11, 5), 20, choice{[]int{1}, 5}},
		{"no value, but a length", worth(10, 0), 20, choice{[]int{0}, 0}},
		{"no value fills what is left", worth(10, 0, 15, 7, 4, 0, 5, 0), 20, choice{[]int{1, 3}, 7}},
		{"the same value and length, fewer", worth(10, 2, 10, 2, 20, 4), 20, choice{[]int{2}, 4}},
		{"the same value and length, as many", worth(10, 2, 12, 3, 8, 1), 20, choice{[]int{1, 2}, 4}},
		{"the least list", worth(10, 2, 10, 2, 10, 2), 20, choice{[]int{0, 1}, 4}},
		{"the least list, the first one decides", worth(4, 1, 5, 1, 5, 1, 6, 1), 10, choice{[]int{0, 3}, 2}},
		{"equal Rivals", rivals(worth(10, 5, 10, 4, 10, 3), "x", "x"), 60, choice{[]int{0, 2}, 8}},
		{"equal Rivals, the later one is worth more", rivals(worth(10, 4, 10, 5, 10, 3), "x", "x"), 60, choice{[]int{1, 2}, 8}},
		{"different Rivals", rivals(worth(10, 5, 10, 4, 10, 3), "x", "y", "z"), 60, choice{[]int{0, 1, 2}, 12}},
		{"empty Rivals", rivals(worth(10, 5, 10, 4, 10, 3), "", "x", ""), 60, choice{[]int{0, 1, 2}, 12}},
		{"a Rival that is a Name", rivals(worth(10, 5, 10, 4), "a1"), 60, choice{[]int{0, 1}, 9}},
		{"all the same Rival", rivals(worth(10, 5, 10, 5, 10, 5), "x", "x", "x"), 60, choice{[]int{0}, 5}},
		{"the greatest numbers", worth(most...), api.MaxTime, choice{all, api.MaxAds * api.MaxValue}},
		{"the greatest numbers, one tick is missing", worth(most...), api.MaxTime/api.MaxAds*api.MaxAds - 1, choice{all[:15], 15 * api.MaxValue}},
		{"the greatest Length", worth(api.MaxTime, 1, api.MaxTime, 2), api.MaxTime, choice{[]int{1}, 2}},
		{"the least numbers", worth(1, 0), 1, choice{[]int{0}, 0}},
	} {
		numbers, value, f := mark.Fill(c.ads, c.length)
		is(t, "Fill with "+c.what, choice{numbers, value}, f, c.want)
	}
}

// better says whether a choice of numbers is to be preferred to another one.
func better(ads []api.Ad, a, b []int) bool {
	sums := func(l []int) (value, length int) {
		for _, i := range l {
			value, length = value+ads[i].Value, length+ads[i].Length
		}
		return value, length
	}
	valueA, lengthA := sums(a)
	valueB, lengthB := sums(b)
	switch {
	case valueA != valueB:
		return valueA > valueB
	case lengthA != lengthB:
		return lengthA > lengthB
	case len(a) != len(b):
		return len(a) < len(b)
	}
	return slices.Compare(a, b) < 0
}

// allows says whether a choice of numbers can be put into a break.
func allows(ads []api.Ad, length int, l []int) bool {
	for k, i := range l {
		length -= ads[i].Length
		for _, j := range l[:k] {
			if ads[i].Rival == ads[j].Rival && ads[i].Rival != "" {
				return false
			}
		}
	}
	return length >= 0
}

func TestManyFills(t *testing.T) {
	r := rand.New(rand.NewSource(5))
	for range 1500 {
		var ads []api.Ad
		values, lengths := 1+r.Intn(4), 1+r.Intn(6)
		for i := range r.Intn(9) {
			ads = append(ads, api.Ad{Name: fmt.Sprint("a", i), Length: 1 + r.Intn(lengths), Value: r.Intn(values), Rival: []string{"", "", "x", "y"}[r.Intn(4)]})
		}
		length := r.Intn(20)
		var best []int
		for set := range 1 << len(ads) {
			var l []int
			for i := range ads {
				if set>>i&1 == 1 {
					l = append(l, i)
				}
			}
			if allows(ads, length, l) && better(ads, l, best) {
				best = l
			}
		}
		want := choice{best, 0}
		for _, i := range best {
			want.value += ads[i].Value
		}
		numbers, value, f := mark.Fill(ads, length)
		is(t, fmt.Sprint("Fill ", ads, length), choice{numbers, value}, f, want)
	}
}

// filling is what Fill is given.
type filling struct {
	ads    []api.Ad
	length int
}

func TestFillFaults(t *testing.T) {
	call := func(c filling) api.Fault {
		numbers, value, f := mark.Fill(c.ads, c.length)
		isWhole(t, "Fill", choice{numbers, value}, f)
		return f
	}
	good := func() filling { return filling{rivals(worth(5, 2, 6, 3, 7, 4), "x", "", longName), 10} }
	second := func(what string, fault api.Fault, change func(ad *api.Ad)) wrong[filling] {
		return wrong[filling]{"the second " + what, fault, func(c *filling) { change(&c.ads[1]) }}
	}
	inOrder(t, "Fill", good, call, []wrong[filling]{
		{"too many", api.ErrLarge, func(c *filling) { c.ads = append(c.ads, worth(make([]int, 2*api.MaxAds)...)...) }},
		{"the first Length", api.ErrRange, func(c *filling) { c.ads[0].Length = 0 }},
		second("Name", api.ErrName, func(ad *api.Ad) { ad.Name = "-" }),
		second("Rival", api.ErrName, func(ad *api.Ad) { ad.Rival = "-" }),
		second("Name comes twice", api.ErrTwice, func(ad *api.Ad) { ad.Name = "a0" }),
		second("Length", api.ErrRange, func(ad *api.Ad) { ad.Length = 0 }),
		{"the third Name", api.ErrName, func(c *filling) { c.ads[2].Name = "" }},
		{"the length", api.ErrRange, func(c *filling) { c.length = -1 }},
	})
	inOrder(t, "Fill", good, call, []wrong[filling]{
		second("Name comes twice", api.ErrTwice, func(ad *api.Ad) { ad.Name = "a0" }),
		second("Value", api.ErrRange, func(ad *api.Ad) { ad.Value = -1 }),
		{"the third Name comes twice", api.ErrTwice, func(c *filling) { c.ads[2].Name = "a0" }},
		{"the length", api.ErrRange, func(c *filling) { c.length = api.MaxTime + 1 }},
	})
	for _, name := range noNames {
		isFault(t, fmt.Sprintf("Fill with the Name %q", name), call(filling{[]api.Ad{ad(name, 1)}, 5}), api.ErrName)
		if name != "" {
			isFault(t, fmt.Sprintf("Fill with the Rival %q", name), call(filling{rivals(worth(1, 1), name), 5}), api.ErrName)
		}
	}
	for _, n := range numbers {
		want := api.ErrRange
		if 1 <= n && n <= api.MaxTime {
			want = api.OK
		}
		isFault(t, fmt.Sprint("Fill with the Length ", n), call(filling{worth(n, 1), 5}), want)
		want = api.ErrRange
		if 0 <= n && n <= api.MaxValue {
			want = api.OK
		}
		isFault(t, fmt.Sprint("Fill with the Value ", n), call(filling{worth(1, n), 5}), want)
		want = api.ErrRange
		if 0 <= n && n <= api.MaxTime {
			want = api.OK
		}
		isFault(t, fmt.Sprint("Fill with the length ", n), call(filling{worth(1, 1), n}), want)
	}
	isFault(t, "Fill with as many as can be", call(filling{worth(slices.Repeat([]int{1}, 2*api.MaxAds)...), 5}), api.OK)
	isFault(t, "Fill with one too many", call(filling{worth(slices.Repeat([]int{1}, 2*api.MaxAds+2)...), 5}), api.ErrLarge)
}
