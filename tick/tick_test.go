package tick_test

import (
	"fmt"
	"math"
	"math/big"
	"math/rand"
	"testing"

	"headend/api"
	"headend/tick"
)

func TestConvertRounds(t *testing.T) {
	for _, c := range []struct{ n, from, to, down, near, up int }{
		{0, 7, 9, 0, 0, 0},
		{1, 3, 2, 0, 1, 1},
		{1, 3, 1, 0, 0, 1},
		{2, 3, 1, 0, 1, 1},
		{1, 2, 1, 0, 1, 1},
		{3, 2, 1, 1, 2, 2},
		{-1, 2, 1, -1, -1, 0},
		{-3, 2, 1, -2, -2, -1},
		{-1, 3, 1, -1, 0, 0},
		{-2, 3, 1, -1, -1, 0},
		{-6, 3, 1, -2, -2, -2},
		{90000, 90000, 48000, 48000, 48000, 48000},
		{api.MaxTime, 1, 1, api.MaxTime, api.MaxTime, api.MaxTime},
		{-api.MaxTime, 1, 1, -api.MaxTime, -api.MaxTime, -api.MaxTime},
		{api.MaxTime, api.MaxScale, api.MaxScale, api.MaxTime, api.MaxTime, api.MaxTime},
		{api.MaxTime, api.MaxScale, 1, 1000000, 1000000, 1000000},
		{1000000, 1, api.MaxScale, api.MaxTime, api.MaxTime, api.MaxTime},
		{999999999999999, 1000000000, 999999999, 999999998999999, 999999998999999, 999999999000000},
	} {
		for way, want := range map[int]int{api.Down: c.down, api.Near: c.near, api.Up: c.up} {
			n, f := tick.Convert(c.n, c.from, c.to, way)
			isValue(t, fmt.Sprint("Convert ", c.n, c.from, c.to, way), n, f, want)
		}
	}
}

// The exact result of these is half a tick beyond the greatest, or least, time.
func TestConvertRoundsAtTheBound(t *testing.T) {
	const n = 666666666666667
	for way, want := range map[int]api.Fault{api.Down: api.OK, api.Near: api.ErrRange, api.Up: api.ErrRange} {
		got, f := tick.Convert(n, 2, 3, way)
		if want == api.OK {
			isValue(t, "Convert", got, f, api.MaxTime)
		} else {
			isFault(t, "Convert", got, f, want)
		}
	}
	for way, want := range map[int]api.Fault{api.Down: api.ErrRange, api.Near: api.ErrRange, api.Up: api.OK} {
		got, f := tick.Convert(-n, 2, 3, way)
		if want == api.OK {
			isValue(t, "Convert", got, f, -api.MaxTime)
		} else {
			isFault(t, "Convert", got, f, want)
		}
	}
}

func TestConvertFaults(t *testing.T) {
	for _, c := range []struct {
		n, from, to, way int
		want             api.Fault
	}{
		{api.MaxTime + 1, 1, 1, api.Down, api.ErrRange},
		{-api.MaxTime - 1, 1, 1, api.Down, api.ErrRange},
		{api.MaxTime + 1, 2, 1, api.Down, api.ErrRange}, // also if the result were a time
		{-api.MaxTime - 1, 2, 1, api.Down, api.ErrRange},
		{math.MinInt, api.MaxScale, 1, api.Down, api.ErrRange},
		{math.MaxInt, api.MaxScale, 1, api.Down, api.ErrRange},
		{1, 0, 1, api.Down, api.ErrRange},
		{1, -1, 1, api.Down, api.ErrRange},
		{1, api.MaxScale + 1, 1, api.Down, api.ErrRange},
		{1, 1, 0, api.Down, api.ErrRange},
		{1, 1, -1, api.Down, api.ErrRange},
		{1, 1, api.MaxScale + 1, api.Down, api.ErrRange},
		{1, 1, 1, 0, api.ErrKind},
		{1, 1, 1, 4, api.ErrKind},
		{1, 1, 1, -1, api.ErrKind},
		{api.MaxTime, 1, 2, api.Down, api.ErrRange},
		{-api.MaxTime, 1, 2, api.Down, api.ErrRange},
		{api.MaxTime, 1, api.MaxScale, api.Down, api.ErrRange},
		{-api.MaxTime, 1, api.MaxScale, api.Up, api.ErrRange},
		// the first of several faults
		{api.MaxTime + 1, 1, 1, 0, api.ErrRange},
		{1, 0, 1, 0, api.ErrRange},
		{1, 1, 0, 0, api.ErrRange},
		{api.MaxTime, 1, 2, 0, api.ErrKind},
	} {
		n, f := tick.Convert(c.n, c.from, c.to, c.way)
		isFault(t, fmt.Sprint("Convert ", c.n, c.from, c.to, c.way), n, f, c.want)
	}
}

func TestConvertIsExact(t *testing.T) {
	r := rand.New(rand.NewSource(1))
	for range 20000 {
		n := r.Intn(2*api.MaxTime+1) - api.MaxTime
		n /= 1 << r.Intn(50)
		from, to := 1+r.Intn(api.MaxScale)>>r.Intn(30), 1+r.Intn(api.MaxScale)>>r.Intn(30)
		way := 1 + r.Intn(3)
		got, f := tick.Convert(n, from, to, way)
		want := exact(product(n, to), big.NewInt(int64(from)), way)
		if !isTime(want) {
			isFault(t, fmt.Sprint("Convert ", n, from, to, way), got, f, api.ErrRange)
			continue
		}
		isValue(t, fmt.Sprint("Convert ", n, from, to, way), got, f, int(want.Int64()))
	}
}

// G1: no argument makes a function panic, and with a fault the result is zero.
func TestAnyNumbers(t *testing.T) {
	zero := func(what string, is bool, f api.Fault) {
		if f != api.OK && !is {
			t.Errorf("%s: a result with fault %d", what, f)
		}
	}
	texts := []string{"", "-", ".", "0", "1.5", "-0.0", "\xff", "99999999999999999999999999999"}
	for _, a := range numbers {
		date, f := tick.Date(a)
		zero("Date", date == "", f)
		for _, b := range numbers {
			anyLists(zero, a, b)
			for _, text := range texts {
				n, f := tick.ReadDecimal(text, a, b)
				zero("ReadDecimal", n == 0, f)
			}
			for _, c := range numbers {
				text, f := tick.Decimal(a, b, c)
				zero("Decimal", text == "", f)
				anyClocks(zero, a, b, c)
				for _, d := range numbers {
					n, f := tick.Convert(a, b, c, d)
					zero("Convert", n == 0, f)
					n, f = tick.FrameTime(a, b, c, d)
					zero("FrameTime", n == 0, f)
					n, f = tick.FrameAt(a, b, c, d)
					zero("FrameAt", n == 0, f)
				}
			}
		}
	}
}

func anyLists(zero func(string, bool, api.Fault), a, b int) {
	for _, l := range [][]int{nil, {a}, {b, a}, {0, b, a}} {
		out, f := tick.Wrap(l, a)
		zero("Wrap", out == nil, f)
		out, f = tick.Unwrap(l, a)
		zero("Unwrap", out == nil, f)
		out, f = tick.Regular(l, a, b)
		zero("Regular", out == nil, f)
	}
	s, other := []api.Span{{From: a, To: b}}, []api.Span{{From: b, To: a}, {From: 0, To: 1}}
	for _, call := range []func(a, b []api.Span) ([]api.Span, api.Fault){tick.Join, tick.Meet, tick.Without} {
		out, f := call(s, other)
		zero("spans", out == nil, f)
		out, f = call(nil, s)
		zero("spans", out == nil, f)
	}
	n, f := tick.Length(s)
	zero("Length", n == 0, f)
}

func anyClocks(zero func(string, bool, api.Fault), a, b, c int) {
	for _, l := range [][]api.Anchor{nil, {{Media: a, Wall: b}}, {{Media: a, Wall: 0}, {Media: b, Wall: api.MaxMilli}}} {
		for _, scale := range []int{0, 1, 1000, api.MaxScale} {
			n, f := tick.Wall(l, scale, c)
			zero("Wall", n == 0, f)
			s, f := tick.Media(l, scale, c)
			zero("Media", s == nil, f)
			k, f := tick.Kept(l, scale, c)
			zero("Kept", k == nil, f)
		}
	}
}
