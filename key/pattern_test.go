package key_test

import (
	"bytes"
	"fmt"
	"math"
	"math/rand"
	"slices"
	"testing"

	"headend/api"
	"headend/key"
)

var counterScheme = api.Scheme{Mode: api.ModeCounter}

func chainScheme(crypt, skip int) api.Scheme {
	return api.Scheme{Mode: api.ModeChain, Crypt: crypt, Skip: skip}
}

// subs returns subs of pairs of Clear and Protected.
func subs(pairs ...int) []api.Sub {
	var l []api.Sub
	for i := 0; i+1 < len(pairs); i += 2 {
		l = append(l, api.Sub{Clear: pairs[i], Protected: pairs[i+1]})
	}
	return l
}

// spans returns spans of pairs of From and To.
func spans(pairs ...int) []api.Span {
	var l []api.Span
	for i := 0; i+1 < len(pairs); i += 2 {
		l = append(l, api.Span{From: pairs[i], To: pairs[i+1]})
	}
	return l
}

// K4: schemes
func TestCheckScheme(t *testing.T) {
	for _, mode := range append([]int{3, 4}, numbers...) {
		for _, crypt := range numbers {
			for _, skip := range numbers {
				want := api.OK
				switch {
				case mode != 1 && mode != 2:
					want = api.ErrKind
				case mode == 1 && (crypt != 0 || skip != 0):
					want = api.ErrForm
				case crypt < 0 || crypt > 10 || skip < 0 || skip > 10:
					want = api.ErrRange
				case crypt == 0 && skip > 0:
					want = api.ErrForm
				}
				s := api.Scheme{Mode: mode, Crypt: crypt, Skip: skip}
				isFault(t, fmt.Sprint("CheckScheme ", s), key.CheckScheme(s), want)
			}
		}
	}
}

// K4: Touched
func TestTouched(t *testing.T) {
	for _, c := range []struct {
		what   string
		scheme api.Scheme
		size   int
		l      []api.Sub
		want   []api.Span
	}{
		{"no bytes", counterScheme, 0, nil, nil},
		{"no list", counterScheme, 5, nil, spans(0, 5)},
		{"a part", counterScheme, 20, subs(3, 17), spans(3, 20)},
		{"parts", counterScheme, 20, subs(3, 5, 4, 8), spans(3, 8, 12, 20)},
		{"parts that touch", counterScheme, 20, subs(3, 5, 0, 8, 1, 1, 0, 2), spans(3, 16, 17, 20)},
		{"parts that are empty", counterScheme, 20, subs(3, 0, 2, 5, 4, 0, 6, 0), spans(5, 10)},
		{"an empty part between parts", counterScheme, 20, subs(0, 5, 4, 0, 0, 11), spans(0, 5, 9, 20)},
		{"no part with bytes", counterScheme, 9, subs(4, 0, 5, 0), nil},
		{"the example", chainScheme(1, 1), 30, nil, spans(0, 8, 16, 24)},
		{"no bytes", chainScheme(0, 0), 0, nil, nil},
		{"fewer bytes than a block", chainScheme(0, 0), 7, nil, nil},
		{"one whole block", chainScheme(0, 0), 8, nil, spans(0, 8)},
		{"one whole block and bytes after it", chainScheme(0, 0), 15, nil, spans(0, 8)},
		{"all whole blocks", chainScheme(0, 0), 30, nil, spans(0, 24)},
		{"no Skip", chainScheme(1, 0), 30, nil, spans(0, 24)},
		{"no Skip, and a Crypt", chainScheme(10, 0), 165, nil, spans(0, 160)},
		{"a part shorter than Crypt blocks", chainScheme(3, 2), 17, nil, spans(0, 16)},
		{"a part of Crypt blocks", chainScheme(3, 2), 24, nil, spans(0, 24)},
		{"a part as long as Crypt plus Skip", chainScheme(3, 2), 40, nil, spans(0, 24)},
		{"a part longer than Crypt plus Skip, by fewer bytes than a block", chainScheme(3, 2), 47, nil, spans(0, 24)},
		{"a part longer than Crypt plus Skip", chainScheme(3, 2), 48, nil, spans(0, 24, 40, 48)},
		{"a part twice as long", chainScheme(3, 2), 80, nil, spans(0, 24, 40, 64)},
		{"the greatest Crypt and Skip", chainScheme(10, 10), 168, nil, spans(0, 80, 160, 168)},
		{"each part for itself", chainScheme(1, 1), 60, subs(2, 30, 4, 24), spans(2, 10, 18, 26, 36, 44, 52, 60)},
		{"parts that touch", chainScheme(1, 1), 24, subs(0, 8, 0, 16), spans(0, 16)},
		{"parts that touch, but not what is touched of them", chainScheme(1, 1), 26, subs(0, 9, 0, 17), spans(0, 8, 9, 17)},
		{"parts with all blocks that touch", chainScheme(0, 0), 48, subs(0, 16, 0, 8, 0, 24), spans(0, 48)},
		{"parts that are empty", chainScheme(0, 0), 23, subs(3, 0, 2, 8, 4, 0, 6, 0), spans(5, 13)},
		{"a last Sub without Protected", chainScheme(1, 9), 14, subs(1, 8, 5, 0), spans(1, 9)},
		{"as many bytes as can be", chainScheme(0, 0), api.MaxCoded, subs(4, api.MaxCoded-4), spans(4, api.MaxCoded-4)},
	} {
		l, f := key.Touched(c.scheme, c.size, c.l)
		is(t, fmt.Sprint("Touched of ", c.what, c.scheme, c.size, c.l), l, f, c.want)
	}
	l, f := key.Touched(chainScheme(1, 1), api.MaxCoded, nil) // more spans than a list of tick can have
	if f != api.OK || len(l) != api.MaxCoded/16 || l[6249] != (api.Span{From: 99984, To: 99992}) {
		t.Error("Touched of as many bytes as can be", len(l), f)
	}
}

// drawSubs draws a list of subs, and returns for how many bytes it is.
func drawSubs(r *rand.Rand) ([]api.Sub, int) {
	var l []api.Sub
	size := 0
	for range r.Intn(6) {
		s := api.Sub{Clear: r.Intn(12) * r.Intn(2), Protected: r.Intn(70) * r.Intn(2)}
		if s == (api.Sub{}) {
			s.Clear = 1 + r.Intn(9)
		}
		l = append(l, s)
		size += s.Clear + s.Protected
	}
	if len(l) == 0 {
		size = r.Intn(100)
	}
	return l, size
}

func drawScheme(r *rand.Rand) api.Scheme {
	if r.Intn(4) == 0 {
		return counterScheme
	}
	if r.Intn(4) == 0 {
		return chainScheme(0, 0)
	}
	return chainScheme(1+r.Intn(4), r.Intn(4))
}

// protectedParts returns for each part the places of its bytes.
func protectedParts(l []api.Sub, size int) [][]int {
	if len(l) == 0 {
		l = subs(0, size)
	}
	var parts [][]int
	place := 0
	for _, s := range l {
		place += s.Clear
		var part []int
		for range s.Protected {
			part = append(part, place)
			place++
		}
		parts = append(parts, part)
	}
	return parts
}

// touchedPlaces returns the places of a part that are encrypted, as the document says it.
func touchedPlaces(s api.Scheme, part []int) []int {
	var l []int
	for i, place := range part {
		number := i / 8
		isWhole := (number+1)*8 <= len(part)
		isCrypt := s.Crypt == 0 || number%(s.Crypt+s.Skip) < s.Crypt
		if s.Mode == api.ModeCounter || isWhole && isCrypt {
			l = append(l, place)
		}
	}
	return l
}

// protected returns what Protect has to return, by the definitions.
func protected(s api.Scheme, k, iv, b []byte, l []api.Sub) []byte {
	out := slices.Clone(b)
	var places []int
	encrypt := func() {
		var taken []byte
		for _, place := range places {
			taken = append(taken, b[place])
		}
		if s.Mode == api.ModeCounter {
			taken = streamed(k, iv, taken, 0)
		} else {
			taken = chained(k, iv, taken)
		}
		for i, place := range places {
			out[place] = taken[i]
		}
		places = nil
	}
	for _, part := range protectedParts(l, len(b)) {
		places = append(places, touchedPlaces(s, part)...)
		if s.Mode == api.ModeChain {
			encrypt()
		}
	}
	encrypt()
	return out
}

func TestManyTouched(t *testing.T) {
	r := rand.New(rand.NewSource(5))
	for range 4000 {
		s := drawScheme(r)
		l, size := drawSubs(r)
		var want []api.Span
		for _, part := range protectedParts(l, size) {
			for _, place := range touchedPlaces(s, part) {
				if n := len(want); n > 0 && want[n-1].To == place {
					want[n-1].To++
				} else {
					want = append(want, api.Span{From: place, To: place + 1})
				}
			}
		}
		got, f := key.Touched(s, size, l)
		is(t, fmt.Sprint("Touched ", s, size, l), got, f, want)
	}
}

// K4: Protect and Open
func TestProtect(t *testing.T) {
	b := counting(40)
	iv := make([]byte, 8)
	whole := func(from, to int) []byte { return chained(someKey, iv, b[from:to]) }
	for _, c := range []struct {
		what   string
		scheme api.Scheme
		l      []api.Sub
		want   []byte
	}{
		{"all with ModeCounter", counterScheme, nil, streamed(someKey, iv, b, 0)},
		{"all with ModeChain", chainScheme(0, 0), nil, whole(0, 40)},
		{"nothing with ModeCounter", counterScheme, subs(40, 0), b},
		{"nothing with ModeChain", chainScheme(1, 0), subs(10, 0, 30, 0), b},
		{"parts with ModeCounter, as if there were nothing between", counterScheme, subs(5, 6, 7, 10, 12, 0), slices.Concat(b[:5], streamed(someKey, iv, b[5:11], 0), b[11:18], streamed(someKey, iv, b[18:28], 6), b[28:])},
		{"parts with ModeCounter that touch", counterScheme, subs(0, 3, 0, 37), streamed(someKey, iv, b, 0)},
		{"parts with ModeChain, each one with the iv", chainScheme(0, 0), subs(5, 16, 3, 16), slices.Concat(b[:5], whole(5, 21), b[21:24], whole(24, 40))},
		{"parts with ModeChain that touch", chainScheme(0, 0), subs(0, 16, 0, 24), slices.Concat(whole(0, 16), whole(16, 40))},
		{"parts with ModeChain shorter than a block", chainScheme(0, 0), subs(0, 7, 3, 7, 20, 3), b},
		{"what is left at the end of a part", chainScheme(0, 0), subs(0, 15, 0, 25), slices.Concat(whole(0, 8), b[8:15], whole(15, 39), b[39:])},
		{"an empty part with ModeChain", chainScheme(0, 0), subs(8, 0, 0, 32), slices.Concat(b[:8], whole(8, 40))},
	} {
		what := fmt.Sprint(c.what, c.scheme, c.l)
		got, f := key.Protect(c.scheme, someKey, iv, b, c.l)
		is(t, "Protect "+what, got, f, c.want)
		got, f = key.Open(c.scheme, someKey, iv, c.want, c.l)
		is(t, "Open "+what, got, f, b)
	}
	got, f := key.Protect(counterScheme, someKey, iv, nil, nil)
	is(t, "Protect no bytes", got, f, nil)
	got, f = key.Open(chainScheme(1, 1), someKey, iv, nil, nil)
	is(t, "Open no bytes", got, f, nil)
}

// The encrypted blocks alone make the chain.
func TestProtectedPattern(t *testing.T) {
	b := counting(45)
	got, f := key.Protect(chainScheme(1, 1), someKey, someIv, b, nil)
	chain := chained(someKey, someIv, slices.Concat(b[:8], b[16:24], b[32:40]))
	want := slices.Concat(chain[:8], b[8:16], chain[8:16], b[24:32], chain[16:], b[40:])
	is(t, "Protect with a pattern", got, f, want)
}

func TestManyProtected(t *testing.T) {
	r := rand.New(rand.NewSource(6))
	for range 3000 {
		s := drawScheme(r)
		l, size := drawSubs(r)
		k, iv, b := drawn(r, 16), drawn(r, 8), drawn(r, size)
		what := fmt.Sprint(s, l, b)
		c, f := key.Protect(s, k, iv, b, l)
		is(t, "Protect "+what, c, f, protected(s, k, iv, b, l))
		d, f := key.Open(s, k, iv, c, l)
		is(t, "Open of Protect "+what, d, f, b)
		d, f = key.Open(s, k, iv, b, l)
		isFault(t, "Open", f, api.OK)
		is(t, "Protect of Open "+what, protected(s, k, iv, d, l), f, b)
		touched, f := key.Touched(s, size, l)
		isFault(t, "Touched", f, api.OK)
		for i := range b {
			if c[i] != b[i] && !slices.ContainsFunc(touched, func(s api.Span) bool { return s.From <= i && i < s.To }) {
				t.Error("Protect changes a byte that is not touched", what, i)
			}
		}
	}
}

func TestManyBytesProtected(t *testing.T) {
	b := counting(api.MaxCoded)
	l := slices.Repeat(subs(17, 183), api.MaxSubs)
	for _, s := range []api.Scheme{counterScheme, chainScheme(0, 0), chainScheme(1, 9)} {
		c, f := key.Protect(s, someKey, someIv, b, l)
		is(t, "Protect as many as can be", c, f, protected(s, someKey, someIv, b, l))
		d, f := key.Open(s, someKey, someIv, c, l)
		is(t, "Open as many as can be", d, f, b)
	}
}

// wrongSubs are lists that are wrong for 20 bytes.
var wrongSubs = []struct {
	what string
	l    []api.Sub
	want api.Fault
}{
	{"too many", slices.Repeat(subs(1, 0), api.MaxSubs+1), api.ErrLarge},
	{"too many, and wrong ones", slices.Repeat(subs(-1, -1), api.MaxSubs+1), api.ErrLarge},
	{"Clear below 0", subs(-1, 21), api.ErrRange},
	{"Protected below 0", subs(21, -1), api.ErrRange},
	{"Clear too great", subs(api.MaxCoded+1, 0), api.ErrRange},
	{"Protected too great", subs(0, api.MaxCoded+1), api.ErrRange},
	{"the greatest numbers", subs(math.MaxInt, math.MaxInt), api.ErrRange},
	{"the least numbers", subs(math.MinInt, math.MinInt), api.ErrRange},
	{"both are 0", subs(0, 0), api.ErrForm},
	{"both are 0 beside others", subs(2, 3, 0, 0, 15, 0), api.ErrForm},
	{"both are 0, and a wrong one behind it", subs(0, 0, -1, 3), api.ErrForm},
	{"a wrong one, and both are 0 behind it", subs(-1, 3, 0, 0), api.ErrRange},
	{"a byte too few", subs(4, 10, 5, 0), api.ErrForm},
	{"a byte too many", subs(4, 10, 5, 2), api.ErrForm},
	{"a byte too many, and a wrong one", subs(4, 10, 5, 2, 0, -1), api.ErrRange},
	{"far too many bytes", slices.Repeat(subs(api.MaxCoded, api.MaxCoded), api.MaxSubs), api.ErrForm},
}

func TestWrongSubs(t *testing.T) {
	b := counting(20)
	for _, c := range wrongSubs {
		for _, s := range []api.Scheme{counterScheme, chainScheme(0, 0), chainScheme(2, 1)} {
			touched, f := key.Touched(s, len(b), c.l)
			isNot(t, "Touched: "+c.what, touched, f, c.want)
			got, f := key.Protect(s, someKey, someIv, b, c.l)
			isNot(t, "Protect: "+c.what, got, f, c.want)
			got, f = key.Open(s, someKey, someIv, b, c.l)
			isNot(t, "Open: "+c.what, got, f, c.want)
		}
	}
	touched, f := key.Touched(counterScheme, 0, subs(0, 1))
	isNot(t, "Touched of no bytes, but a list", touched, f, api.ErrForm)
	touched, f = key.Touched(counterScheme, api.MaxSubs, slices.Repeat(subs(0, 1), api.MaxSubs))
	is(t, "Touched with as many subs as can be", touched, f, spans(0, api.MaxSubs))
}

// patterned is what functions with schemes are given.
type patterned struct {
	scheme     api.Scheme
	key, iv, b []byte
	size       int
	l          []api.Sub
}

func somePatterned() patterned {
	return patterned{chainScheme(1, 1), someKey, someIv, counting(20), 20, subs(3, 17)}
}

func TestPatternOrder(t *testing.T) {
	scheme := wrong[patterned]{"the Mode", api.ErrKind, func(p *patterned) { p.scheme.Mode = 3 }}
	crypt := wrong[patterned]{"Crypt", api.ErrRange, func(p *patterned) { p.scheme.Crypt = 11 }}
	sub := wrong[patterned]{"a Sub", api.ErrForm, func(p *patterned) { p.l = append(subs(0, 0), p.l...) }}
	touch := func(p patterned) api.Fault {
		l, f := key.Touched(p.scheme, p.size, p.l)
		isWhole(t, "Touched", l, f)
		return f
	}
	inOrder(t, "Touched", somePatterned, touch, []wrong[patterned]{
		scheme, crypt,
		{"the size", api.ErrRange, func(p *patterned) { p.size = api.MaxCoded + 1 }},
		{"too many subs", api.ErrLarge, func(p *patterned) { p.l = slices.Repeat(subs(1, 0), api.MaxSubs+1) }},
		sub,
	})
	for _, size := range numbers {
		f := touch(patterned{scheme: counterScheme, size: size})
		isFault(t, fmt.Sprint("Touched of ", size), f, map[bool]api.Fault{false: api.ErrRange}[size >= 0 && size <= api.MaxCoded])
	}
	wrongs := []wrong[patterned]{
		scheme, crypt,
		{"a key of 17 bytes", api.ErrForm, func(p *patterned) { p.key = make([]byte, 17) }},
		{"an iv of 7 bytes", api.ErrForm, func(p *patterned) { p.iv = p.iv[:7] }},
		{"too many bytes", api.ErrLarge, func(p *patterned) { p.b = bytes.Repeat([]byte{7}, api.MaxCoded+1) }},
		sub,
		{"the bytes of the subs", api.ErrForm, func(p *patterned) { p.l = append(slices.Clone(p.l), api.Sub{Clear: 1}) }},
	}
	inOrder(t, "Protect", somePatterned, func(p patterned) api.Fault {
		b, f := key.Protect(p.scheme, p.key, p.iv, p.b, p.l)
		isWhole(t, "Protect", b, f)
		return f
	}, wrongs)
	inOrder(t, "Open", somePatterned, func(p patterned) api.Fault {
		b, f := key.Open(p.scheme, p.key, p.iv, p.b, p.l)
		isWhole(t, "Open", b, f)
		return f
	}, wrongs)
}
