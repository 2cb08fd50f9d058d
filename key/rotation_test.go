package key_test

import (
	"fmt"
	"math/rand"
	"slices"
	"testing"

	"headend/api"
	"headend/key"
)

// turning returns a rotation with a seed.
func turning(begin, every, lead int) api.Rotation {
	return api.Rotation{Begin: begin, Every: every, Lead: lead, Seed: []byte("s")}
}

// rotationWrongs are the errors of a rotation, in order.
var rotationWrongs = []wrong[api.Rotation]{
	{"Begin", api.ErrRange, func(r *api.Rotation) { r.Begin = -1 }},
	{"Every", api.ErrRange, func(r *api.Rotation) { r.Every = 0 }},
	{"Lead", api.ErrRange, func(r *api.Rotation) { r.Lead = api.MaxTime + 1 }},
	{"Seed", api.ErrLarge, func(r *api.Rotation) { r.Seed = make([]byte, api.MaxSeed+1) }},
}

// K6: rotations
func TestCheckRotation(t *testing.T) {
	inOrder(t, "CheckRotation", func() api.Rotation { return turning(5, 10, 3) }, key.CheckRotation, rotationWrongs)
	inRange := map[bool]api.Fault{false: api.ErrRange}
	for _, n := range numbers {
		isFrom0 := inRange[n >= 0 && n <= api.MaxTime]
		isFault(t, fmt.Sprint("CheckRotation with Begin ", n), key.CheckRotation(turning(n, 1, 0)), isFrom0)
		isFault(t, fmt.Sprint("CheckRotation with Every ", n), key.CheckRotation(turning(0, n, 0)), inRange[n >= 1 && n <= api.MaxTime])
		isFault(t, fmt.Sprint("CheckRotation with Lead ", n), key.CheckRotation(turning(0, 1, n)), isFrom0)
	}
	for n, want := range map[int]api.Fault{0: api.OK, 1: api.OK, api.MaxSeed: api.OK, api.MaxSeed + 1: api.ErrLarge, 1000000: api.ErrLarge} {
		isFault(t, fmt.Sprint("CheckRotation with a Seed of ", n), key.CheckRotation(api.Rotation{Every: 1, Seed: make([]byte, n)}), want)
	}
}

// K6: PeriodAt
func TestPeriodAt(t *testing.T) {
	for _, c := range []struct{ begin, every, time, want int }{
		{0, 10, 0, 0},
		{0, 10, 9, 0},
		{0, 10, 10, 1},
		{0, 10, 11, 1},
		{0, 10, 25, 2},
		{7, 10, 7, 0},
		{7, 10, 8, 0},
		{7, 10, 16, 0},
		{7, 10, 17, 1},
		{7, 10, 18, 1},
		{7, 10, 26, 1},
		{7, 10, 27, 2},
		{7, 1, 8, 1},
		{0, 1, api.MaxTime, api.MaxTime},
		{0, api.MaxTime, api.MaxTime - 1, 0},
		{0, api.MaxTime, api.MaxTime, 1},
		{api.MaxTime, api.MaxTime, api.MaxTime, 0},
	} {
		n, f := key.PeriodAt(turning(c.begin, c.every, 3), c.time)
		is(t, fmt.Sprint("PeriodAt ", c), n, f, c.want)
	}
	for time := range 7 {
		n, f := key.PeriodAt(turning(7, 10, 3), time)
		isNot(t, fmt.Sprint("PeriodAt before Begin, ", time), n, f, api.ErrNone)
	}
}

// K6: KeyId and KeyOf
func TestKeys(t *testing.T) {
	r := turning(0, 10, 3)
	id, f := key.KeyId(r, 1)
	is(t, "KeyId", id, f, unhex("76d4b7ebbcbb4dbf78fcd61807cb932b"))
	k, f := key.KeyOf(r, []byte("secret"), 1)
	is(t, "KeyOf", k, f, unhex("c72b3a9b330918b65ba145f1ab5589af"))
	for _, seed := range [][]byte{nil, []byte("s"), counting(api.MaxSeed)} {
		for _, secret := range [][]byte{nil, []byte("secret"), counting(api.MaxSeed)} {
			for _, period := range []int{0, 1, 255, 256, api.MaxPeriods - 1, api.MaxPeriods} {
				r := api.Rotation{Begin: 3, Every: 5, Lead: 7, Seed: seed}
				what := fmt.Sprint(seed, secret, period)
				wantId := digested(slices.Concat(seed, make([]byte, 4), fourBytes(period)))
				id, f := key.KeyId(r, period)
				is(t, "KeyId "+what, id, f, wantId)
				k, f := key.KeyOf(r, secret, period)
				is(t, "KeyOf "+what, k, f, digested(slices.Concat(secret, wantId)))
			}
		}
	}
}

// needed returns what Needed has to return of the first periods, by the definitions.
func needed(r api.Rotation, w api.Span, periods int) []int {
	var l []int
	for n := range periods {
		isNeeded := false
		for time := r.Begin + n*r.Every; time < r.Begin+(n+1)*r.Every; time++ {
			isNeeded = isNeeded || w.From <= time && time < w.To+r.Lead
		}
		if isNeeded {
			l = append(l, n)
		}
	}
	return l
}

// K6: Needed
func TestNeeded(t *testing.T) {
	for _, c := range []struct {
		what     string
		r        api.Rotation
		from, to int
		want     []int
	}{
		{"two periods, and the Lead into a third one", turning(0, 10, 3), 5, 18, []int{0, 1, 2}},
		{"within a period", turning(20, 10, 0), 33, 36, []int{1}},
		{"just a period", turning(20, 10, 0), 30, 40, []int{1}},
		{"just a period, and one before", turning(20, 10, 0), 29, 40, []int{0, 1}},
		{"just a period, and one after", turning(20, 10, 0), 30, 41, []int{1, 2}},
		{"a Lead up to the end of a period", turning(20, 10, 7), 30, 33, []int{1}},
		{"a Lead into the next period", turning(20, 10, 8), 30, 33, []int{1, 2}},
		{"a Lead over periods", turning(20, 10, 28), 30, 33, []int{1, 2, 3, 4}},
		{"a span that ends before Begin", turning(20, 10, 0), 3, 19, nil},
		{"a span that ends at Begin", turning(20, 10, 0), 3, 20, nil},
		{"a span that ends after Begin", turning(20, 10, 0), 3, 21, []int{0}},
		{"a span that ends before Begin, also with its Lead", turning(20, 10, 5), 3, 15, nil},
		{"a span that ends before Begin, but not with its Lead", turning(20, 10, 6), 3, 15, []int{0}},
		{"a span that contains Begin", turning(20, 10, 0), 0, 45, []int{0, 1, 2}},
		{"a span that begins at Begin", turning(20, 10, 0), 20, 21, []int{0}},
		{"periods of a tick", turning(20, 1, 2), 18, 22, []int{0, 1, 2, 3}},
		{"the end of time", turning(0, api.MaxTime, api.MaxTime), api.MaxTime - 1, api.MaxTime, []int{0, 1}},
		{"the end of time, and a Lead that is not needed", turning(api.MaxTime, api.MaxTime, 0), 0, api.MaxTime, nil},
		{"the end of time, and a Lead", turning(api.MaxTime, 1, 2), 0, api.MaxTime, []int{0, 1}},
	} {
		l, f := key.Needed(c.r, api.Span{From: c.from, To: c.to})
		is(t, "Needed: "+c.what, l, f, c.want)
	}
}

func TestManyNeeded(t *testing.T) {
	r := rand.New(rand.NewSource(9))
	for range 5000 {
		turns := turning(r.Intn(30), 1+r.Intn(9), r.Intn(15)*r.Intn(2))
		from := r.Intn(40)
		w := api.Span{From: from, To: from + 1 + r.Intn(20)}
		l, f := key.Needed(turns, w)
		is(t, fmt.Sprint("Needed ", turns, w), l, f, needed(turns, w, 100))
		if turns.Lead > 0 {
			continue
		}
		for time := w.From; time < w.To; time++ { // each one is the period of a time
			if n, f := key.PeriodAt(turns, time); f == api.OK && !slices.Contains(l, n) {
				t.Error("Needed", turns, w, l, "without", n)
			}
		}
	}
}

func TestNeededLimits(t *testing.T) {
	for _, c := range []struct {
		what     string
		r        api.Rotation
		from, to int
		count    int
		want     api.Fault
	}{
		{"as many as can be", turning(0, 10, 0), 0, 10 * api.MaxNeeded, api.MaxNeeded, api.OK},
		{"one too many", turning(0, 10, 0), 0, 10*api.MaxNeeded + 1, 0, api.ErrLarge},
		{"as many as can be, with a Lead", turning(0, 10, 9), 5, 10*api.MaxNeeded - 9, api.MaxNeeded, api.OK},
		{"one too many, with a Lead", turning(0, 10, 9), 5, 10*api.MaxNeeded - 8, 0, api.ErrLarge},
		{"far too many", turning(0, 1, api.MaxTime), 0, api.MaxTime, 0, api.ErrLarge},
		{"the greatest period", turning(0, 1, 0), api.MaxPeriods, api.MaxPeriods + 1, 1, api.OK},
		{"some up to the greatest period", turning(5, 2, 3), 2*api.MaxPeriods - 3, 2*api.MaxPeriods + 4, 5, api.OK},
		{"one greater than the greatest period", turning(0, 1, 0), api.MaxPeriods, api.MaxPeriods + 2, 0, api.ErrLarge},
		{"one greater alone", turning(0, 1, 0), api.MaxPeriods + 1, api.MaxPeriods + 2, 0, api.ErrLarge},
		{"one greater because of the Lead", turning(0, 1, 1), api.MaxPeriods, api.MaxPeriods + 1, 0, api.ErrLarge},
	} {
		l, f := key.Needed(c.r, api.Span{From: c.from, To: c.to})
		if f != c.want || len(l) != c.count {
			t.Error("Needed:", c.what, len(l), f)
		}
	}
}

// turned is what functions with rotations are given.
type turned struct {
	r            api.Rotation
	time, period int
	secret       []byte
	w            api.Span
}

func someTurned() turned {
	return turned{turning(5, 10, 3), 30, 2, []byte("secret"), api.Span{From: 7, To: 30}}
}

// turnedOrder expects that a function returns the errors of its rotation first, and then others.
func turnedOrder[V any](t *testing.T, what string, call func(v turned) (V, api.Fault), wrongs []wrong[turned]) {
	t.Helper()
	var all []wrong[turned]
	for _, w := range rotationWrongs {
		all = append(all, wrong[turned]{w.what, w.fault, func(v *turned) { w.change(&v.r) }})
	}
	inOrder(t, what, someTurned, func(v turned) api.Fault {
		result, f := call(v)
		isWhole(t, what, result, f)
		return f
	}, append(all, wrongs...))
}

func TestRotationOrder(t *testing.T) {
	period := wrong[turned]{"the period", api.ErrRange, func(v *turned) { v.period = api.MaxPeriods + 1 }}
	turnedOrder(t, "PeriodAt", func(v turned) (int, api.Fault) { return key.PeriodAt(v.r, v.time) }, []wrong[turned]{
		{"a time below 0", api.ErrRange, func(v *turned) { v.time = -1 }},
		{"a time before Begin", api.ErrNone, func(v *turned) { v.time = 4 }},
	})
	turnedOrder(t, "KeyId", func(v turned) ([]byte, api.Fault) { return key.KeyId(v.r, v.period) }, []wrong[turned]{period})
	turnedOrder(t, "KeyOf", func(v turned) ([]byte, api.Fault) { return key.KeyOf(v.r, v.secret, v.period) }, []wrong[turned]{
		{"the secret", api.ErrLarge, func(v *turned) { v.secret = make([]byte, api.MaxSeed+1) }},
		period,
	})
	turnedOrder(t, "Needed", func(v turned) ([]int, api.Fault) { return key.Needed(v.r, v.w) }, []wrong[turned]{
		{"From", api.ErrRange, func(v *turned) { v.w.From = -1 }},
		{"To, too great", api.ErrRange, func(v *turned) { v.w.To = api.MaxTime + 1 }},
		{"To", api.ErrOrder, func(v *turned) { v.w.To = v.w.From }},
	})
}

// That there are too many is told after all else.
func TestTooManyNeeded(t *testing.T) {
	for _, w := range append(rotationWrongs, wrong[api.Rotation]{"nothing", api.ErrLarge, func(*api.Rotation) {}}) {
		v := someTurned()
		v.r.Every, v.w.To = 1, 5000
		w.change(&v.r)
		l, f := key.Needed(v.r, v.w)
		isNot(t, "Needed of too many, and wrong is "+w.what, l, f, w.fault)
	}
}

func TestRotationNumbers(t *testing.T) {
	r := turning(0, 10, 3)
	inRange := map[bool]api.Fault{false: api.ErrRange}
	for _, n := range numbers {
		_, f := key.PeriodAt(r, n)
		isFault(t, fmt.Sprint("PeriodAt ", n), f, inRange[n >= 0 && n <= api.MaxTime])
		_, f = key.KeyId(r, n)
		isFault(t, fmt.Sprint("KeyId ", n), f, inRange[n >= 0 && n <= api.MaxPeriods])
		_, f = key.KeyOf(r, nil, n)
		isFault(t, fmt.Sprint("KeyOf ", n), f, inRange[n >= 0 && n <= api.MaxPeriods])
		for _, m := range numbers {
			want := api.OK
			switch {
			case n < 0 || n > api.MaxTime || m < 0 || m > api.MaxTime:
				want = api.ErrRange
			case m <= n:
				want = api.ErrOrder
			}
			l, f := key.Needed(turning(0, api.MaxTime, 0), api.Span{From: n, To: m})
			isWhole(t, "Needed", l, f)
			isFault(t, fmt.Sprint("Needed ", n, m), f, want)
		}
	}
}
