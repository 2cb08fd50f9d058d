package tick_test

import (
	"fmt"
	"math/big"
	"math/rand"
	"slices"
	"testing"

	"headend/api"
	"headend/tick"
)

// clock makes anchors of pairs of numbers.
func clock(l ...int) []api.Anchor {
	var out []api.Anchor
	for i := 0; i+1 < len(l); i += 2 {
		out = append(out, api.Anchor{Media: l[i], Wall: l[i+1]})
	}
	return out
}

// ticking returns a clock with so many anchors, one each millisecond at the scale 1000.
func ticking(many int) []api.Anchor {
	var out []api.Anchor
	for i := range many {
		out = append(out, api.Anchor{Media: i, Wall: i})
	}
	return out
}

func TestCheckClock(t *testing.T) {
	for _, l := range [][]api.Anchor{
		clock(0, 0), clock(-api.MaxTime, api.MaxMilli, api.MaxTime, 0), clock(0, 5, 1, 5, 2, 4), ticking(api.MaxAnchor),
	} {
		if f := tick.CheckClock(l); f != api.OK {
			t.Error("CheckClock", l, f)
		}
	}
}

// badClocks are lists, and the faults that they have.
var badClocks = []struct {
	l    []api.Anchor
	want api.Fault
}{
	{nil, api.ErrNone},
	{[]api.Anchor{}, api.ErrNone},
	{ticking(api.MaxAnchor + 1), api.ErrLarge},
	{clock(api.MaxTime+1, 0), api.ErrRange},
	{clock(-api.MaxTime-1, 0), api.ErrRange},
	{clock(0, -1), api.ErrRange},
	{clock(0, api.MaxMilli+1), api.ErrRange},
	{clock(0, 0, 1, -1), api.ErrRange},
	{clock(0, 0, 0, 1), api.ErrOrder},
	{clock(0, 0, -1, 1), api.ErrOrder},
	{clock(0, 0, 1, 0, 1, 1), api.ErrOrder},
	// the first of several faults
	{append(clock(0, -1), ticking(api.MaxAnchor)...), api.ErrLarge},
	{append(clock(5, 0), ticking(api.MaxAnchor)...), api.ErrLarge},
	{clock(0, 0, 0, -1), api.ErrRange},
	{clock(0, 0, 0, 0, 1, -1), api.ErrOrder},
	{clock(0, 0, 1, -1, 0, 0), api.ErrRange},
}

func TestClockFaults(t *testing.T) {
	for i, c := range badClocks {
		if f := tick.CheckClock(c.l); f != c.want {
			t.Error("CheckClock of list", i, f, c.want)
		}
		for _, scale := range []int{1000, 0} { // the clock comes before the scale
			n, f := tick.Wall(c.l, scale, api.MaxTime+1)
			isFault(t, fmt.Sprint("Wall of list ", i), n, f, c.want)
			s, f := tick.Media(c.l, scale, -1)
			isListFault(t, fmt.Sprint("Media of list ", i), s, f, c.want)
			k, f := tick.Kept(c.l, scale, -1)
			isListFault(t, fmt.Sprint("Kept of list ", i), k, f, c.want)
		}
	}
	for _, scale := range []int{0, -1, api.MaxScale + 1} {
		n, f := tick.Wall(clock(0, 0), scale, 0)
		isFault(t, fmt.Sprint("Wall at ", scale), n, f, api.ErrRange)
		s, f := tick.Media(clock(0, 0), scale, 0)
		isListFault(t, fmt.Sprint("Media at ", scale), s, f, api.ErrRange)
		k, f := tick.Kept(clock(0, 0), scale, 0)
		isListFault(t, fmt.Sprint("Kept at ", scale), k, f, api.ErrRange)
	}
	for _, n := range []int{-1, api.MaxMilli + 1} {
		s, f := tick.Media(clock(0, 0), 1000, n)
		isListFault(t, fmt.Sprint("Media ", n), s, f, api.ErrRange)
		k, f := tick.Kept(clock(0, 0), 1000, n)
		isListFault(t, fmt.Sprint("Kept ", n), k, f, api.ErrRange)
	}
}

func TestWall(t *testing.T) {
	two := clock(0, 1000, 90, 500)
	for _, c := range []struct {
		l                  []api.Anchor
		scale, media, want int
	}{
		{two, 90, 0, 1000},
		{two, 90, 1, 1011},
		{two, 90, 45, 1500},
		{two, 90, 89, 1988},
		{two, 90, 90, 500},
		{two, 90, 180, 1500},
		{two, 90, -1, 988}, // before the first anchor, 11 and a ninth less, rounded down
		{two, 90, -90, 0},
		{clock(10, 100, 20, 900, 30, 50), 1000, 25, 905},
		{clock(10, 100, 20, 900, 30, 50), 1000, 19, 109},
		{clock(10, 100, 20, 900, 30, 50), 1000, 30, 50},
		{clock(10, 100, 20, 900, 30, 50), 1000, 9, 99},
		{clock(0, 0), 1, 253402300799, 253402300799000},
		{clock(0, 999), 1, 253402300799, api.MaxMilli},
		{clock(0, 0), api.MaxScale, api.MaxTime, 1000000000},
		{clock(-api.MaxTime, 0), api.MaxScale, api.MaxTime, 2000000000},
		{clock(api.MaxTime, api.MaxMilli), api.MaxScale, -api.MaxTime, api.MaxMilli - 2000000000},
		{clock(0, 7), 1000000, -1, 6},
		{clock(0, 7), 1000000, 999, 7},
		{clock(0, 7), 1000000, 1000, 8},
	} {
		n, f := tick.Wall(c.l, c.scale, c.media)
		isValue(t, fmt.Sprint("Wall ", c.l, c.scale, c.media), n, f, c.want)
	}
}

func TestWallFaults(t *testing.T) {
	for _, c := range []struct {
		l            []api.Anchor
		scale, media int
	}{
		{clock(0, 0), api.MaxScale, api.MaxTime + 1},
		{clock(0, api.MaxMilli), api.MaxScale, -api.MaxTime - 1},
		{clock(0, 0), 1000, -1},
		{clock(0, 0), 1000000, -1}, // rounded down
		{clock(0, api.MaxMilli), 1000, 1},
		{clock(0, 0), 1, 253402300800},
		{clock(-api.MaxTime, 0), 1, api.MaxTime},
		{clock(api.MaxTime, api.MaxMilli), 1, -api.MaxTime},
	} {
		n, f := tick.Wall(c.l, c.scale, c.media)
		isFault(t, fmt.Sprint("Wall ", c.l, c.scale, c.media), n, f, api.ErrRange)
	}
	n, f := tick.Wall(clock(0, api.MaxMilli), 1000000, 999)
	isValue(t, "Wall", n, f, api.MaxMilli)
}

func TestMedia(t *testing.T) {
	two := clock(0, 1000, 90, 500)
	for _, c := range []struct {
		l           []api.Anchor
		scale, wall int
		want        []api.Span
	}{
		{two, 90, 1500, spans(45, 46, 180, 181)},
		{two, 90, 1501, nil}, // no tick is this millisecond
		{two, 90, 1000, spans(0, 1, 135, 136)},
		{two, 90, 988, spans(-1, 0, 134, 135)}, // also before the first anchor
		{two, 90, 500, spans(-45, -44, 90, 91)},
		{two, 90, 2000, spans(225, 226)}, // tick 90 is of the second anchor
		{clock(0, 0), 90000, 1, spans(90, 180)},
		{clock(0, 0), 1500, 0, spans(0, 2)},
		{clock(0, 0), 1500, 1, spans(2, 3)},
		{clock(0, 0, 5, 5), 1000, 5, spans(5, 6)},
		{clock(0, 0, 50, 5), 10000, 5, spans(50, 60)},
		{clock(0, 0, 55, 5), 10000, 5, spans(50, 65)},               // those that touch are one
		{clock(0, 0, 50, 5, 53, 5, 56, 5), 10000, 5, spans(50, 66)}, // also more than two
		{clock(0, 0, 50, 5, 53, 6, 56, 5), 10000, 5, spans(50, 53, 56, 66)},
		{clock(0, 9, 10, 0, 20, 9), 1000, 9, spans(0, 1, 19, 21)},
		{clock(0, 5), 1, api.MaxMilli, nil},
		{clock(0, 0), 1, 1000, spans(1, 2)},
		{clock(0, 0), 1, 253402300799000, spans(253402300799, 253402300800)},
		{clock(0, 0), api.MaxScale, 1000000000, nil}, // at MaxTime, and behind it
		{clock(0, 0), api.MaxScale, 999999999, spans(999999999000000, api.MaxTime)},
		{clock(500000, 0), api.MaxScale, 999999999, spans(999999999500000, api.MaxTime)},
		{clock(0, 1000000000), api.MaxScale, 0, spans(-api.MaxTime, -api.MaxTime+1000000)},
		{clock(-500000, 1000000000), api.MaxScale, 0, spans(-api.MaxTime, -api.MaxTime+500000)},
		{clock(0, 0), api.MaxScale, api.MaxMilli, nil},
		{clock(0, api.MaxMilli), api.MaxScale, 0, nil},
		{clock(api.MaxTime, 0), 1000, 0, nil},
		{clock(0, 0, api.MaxTime, 7), 1000, 7, spans(7, 8)},
		{clock(-api.MaxTime, 3), 1000, 3, spans(-api.MaxTime, -api.MaxTime+1)},
		{clock(-api.MaxTime, 3), 1000, 2, nil},
	} {
		l, f := tick.Media(c.l, c.scale, c.wall)
		isList(t, fmt.Sprint("Media ", c.l, c.scale, c.wall), l, f, c.want)
	}
}

// walls returns, without a limit, the millisecond that a tick is by the anchors.
func walls(l []api.Anchor, scale, media int) *big.Int {
	a := l[0]
	for _, b := range l {
		if b.Media <= media {
			a = b
		}
	}
	wall := exact(product(media-a.Media, 1000), big.NewInt(int64(scale)), api.Down)
	return wall.Add(wall, big.NewInt(int64(a.Wall)))
}

// drawClock draws a clock whose anchors are near to one another.
func drawClock(r *rand.Rand, begin, apart, most int) []api.Anchor {
	var l []api.Anchor
	for range 1 + r.Intn(6) {
		begin += 1 + r.Intn(apart)
		l = append(l, api.Anchor{Media: begin, Wall: r.Intn(most)})
	}
	return l
}

// Clocks of a few ticks, tick by tick.
func TestMediaTickByTick(t *testing.T) {
	r := rand.New(rand.NewSource(7))
	for range 800 {
		scale := []int{300, 700, 1000, 2500, 9000}[r.Intn(5)]
		l := drawClock(r, -20, 15, 60)
		wall := 30 + r.Intn(20)
		var want []api.Span
		for m := -1500; m < 1500; m++ {
			if walls(l, scale, m).Cmp(big.NewInt(int64(wall))) != 0 {
				continue
			}
			if n := len(want); n > 0 && want[n-1].To == m {
				want[n-1].To = m + 1
			} else {
				want = append(want, api.Span{From: m, To: m + 1})
			}
		}
		got, f := tick.Media(l, scale, wall)
		isList(t, fmt.Sprint("Media ", l, scale, wall), got, f, want)
	}
}

func TestMediaOfWall(t *testing.T) {
	r := rand.New(rand.NewSource(8))
	for range 5000 {
		scale := 1 + r.Intn(api.MaxScale)>>r.Intn(30)
		l := drawClock(r, -api.MaxTime, 300000000000000, api.MaxMilli+1)
		media := r.Intn(2*api.MaxTime) - api.MaxTime
		if r.Intn(2) == 0 {
			media = l[r.Intn(len(l))].Media + r.Intn(2000) - 1000
		}
		if media < -api.MaxTime || media >= api.MaxTime || l[len(l)-1].Media > api.MaxTime {
			continue
		}
		what := fmt.Sprint(l, scale, media)
		wall, f := tick.Wall(l, scale, media)
		want := walls(l, scale, media)
		if want.Sign() < 0 || want.Cmp(big.NewInt(api.MaxMilli)) > 0 {
			isFault(t, "Wall "+what, wall, f, api.ErrRange)
			continue
		}
		isValue(t, "Wall "+what, wall, f, int(want.Int64()))
		s, f := tick.Media(l, scale, wall)
		has := slices.ContainsFunc(s, func(s api.Span) bool { return s.From <= media && media < s.To })
		if f != api.OK || !has || tick.CheckSpans(s) != api.OK {
			t.Error("Media of Wall", what, wall, s, f)
		}
	}
}

func TestKept(t *testing.T) {
	for _, c := range []struct {
		l            []api.Anchor
		scale, slack int
		want         []api.Anchor
	}{
		{clock(5, 7), 90, 0, clock(5, 7)},
		{clock(0, 0, 90, 1001, 180, 2500), 90, 1, clock(0, 0, 180, 2500)},
		{clock(0, 0, 90, 1001, 180, 2500), 90, 0, clock(0, 0, 90, 1001, 180, 2500)},
		{clock(0, 0, 90, 1001, 180, 2500), 90, 499, clock(0, 0, 180, 2500)},
		{clock(0, 0, 90, 1001, 180, 2500), 90, 500, clock(0, 0)},
		{clock(0, 100, 10, 105, 20, 110), 1000, 5, clock(0, 100, 20, 110)},           // by the last one that was kept
		{clock(0, 100, 10, 104, 20, 108, 30, 112), 1000, 10, clock(0, 100, 20, 108)}, // not by the one before it
		{clock(0, 100, 10, 116, 20, 126, 30, 130), 1000, 5, clock(0, 100, 10, 116, 30, 130)},
		{clock(0, 100, 10, 94, 20, 104), 1000, 15, clock(0, 100, 10, 94)},
		{clock(0, 100, 1, 100), 3000, 0, clock(0, 100)}, // a third of a millisecond, rounded down
		{clock(0, 100, 2, 101), 3000, 0, clock(0, 100, 2, 101)},
		{clock(0, 100, 3, 101), 3000, 0, clock(0, 100)},
		{clock(0, 0, api.MaxTime, 5), 1000, api.MaxMilli, clock(0, 0, api.MaxTime, 5)}, // by the first one it is after the last millisecond
		{clock(0, 0, 1, api.MaxMilli), 1000, api.MaxMilli, clock(0, 0)},
		{clock(-api.MaxTime, 0, api.MaxTime, api.MaxMilli), 1, api.MaxMilli, clock(-api.MaxTime, 0, api.MaxTime, api.MaxMilli)},
		{clock(0, api.MaxMilli, 1, 0), api.MaxScale, api.MaxMilli, clock(0, api.MaxMilli)},
		{clock(0, api.MaxMilli, 1, 0), api.MaxScale, api.MaxMilli - 1, clock(0, api.MaxMilli, 1, 0)},
		{ticking(api.MaxAnchor), 1000, 0, clock(0, 0)},
		{ticking(api.MaxAnchor), 1, 0, ticking(api.MaxAnchor)},
	} {
		l, f := tick.Kept(c.l, c.scale, c.slack)
		isList(t, fmt.Sprint("Kept ", c.l, c.scale, c.slack), l, f, c.want)
	}
}

func TestClocksLeaveArguments(t *testing.T) {
	for _, slack := range []int{0, 1000} {
		guarded(t, "Kept", clock(0, 0, 90, 1001, 180, 2500), api.Anchor{Media: -7}, func(l []api.Anchor) []api.Anchor {
			out, _ := tick.Kept(l, 90, slack)
			return out
		})
	}
}
