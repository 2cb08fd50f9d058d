package tick_test

import (
	"fmt"
	"math/rand"
	"testing"

	"headend/api"
	"headend/tick"
)

type listCall = func([]int, int) ([]int, api.Fault)

func TestWrap(t *testing.T) {
	for _, c := range []struct {
		l    []int
		bits int
		want []int
	}{
		{nil, 8, nil},
		{[]int{0, 255, 256, 259, 511, 512}, 8, []int{0, 255, 0, 3, 255, 0}},
		{[]int{-1, -255, -256, -257}, 8, []int{255, 1, 0, 255}},
		{[]int{5, -5}, 2, []int{1, 3}},
		{[]int{1 << 33, 1<<33 - 1}, 33, []int{0, 1<<33 - 1}},
		{[]int{api.MaxTime, -api.MaxTime}, 48, []int{api.MaxTime - 3<<48, 4<<48 - api.MaxTime}},
	} {
		l, f := tick.Wrap(c.l, c.bits)
		isList(t, fmt.Sprint("Wrap ", c.l, c.bits), l, f, c.want)
	}
}

func TestUnwrap(t *testing.T) {
	for _, c := range []struct {
		l    []int
		bits int
		want []int
	}{
		{nil, 8, nil},
		{[]int{250, 3, 251}, 8, []int{250, 259, 251}},
		{[]int{3, 250, 3}, 8, []int{3, -6, 3}},
		{[]int{255}, 8, []int{255}},
		{[]int{0, 127, 254, 125}, 8, []int{0, 127, 254, 381}},
		{[]int{0, 128}, 8, []int{0, -128}}, // half a round is one back
		{[]int{0, 129}, 8, []int{0, -127}},
		{[]int{0, 128, 0, 128}, 8, []int{0, -128, -256, -384}},
		{[]int{0, 1, 3, 2}, 2, []int{0, 1, -1, -2}},
		{[]int{7, 7}, 8, []int{7, 7}},
		{[]int{1<<48 - 1, 0}, 48, []int{1<<48 - 1, 1 << 48}},
		{[]int{0, 1 << 47}, 48, []int{0, -1 << 47}},
	} {
		l, f := tick.Unwrap(c.l, c.bits)
		isList(t, fmt.Sprint("Unwrap ", c.l, c.bits), l, f, c.want)
	}
}

func TestCounterFaults(t *testing.T) {
	full, many := make([]int, api.MaxTimes), make([]int, api.MaxTimes+1)
	for what, call := range map[string]listCall{"Wrap": tick.Wrap, "Unwrap": tick.Unwrap} {
		for _, bits := range []int{-1, 0, 1, 49, 64} {
			l, f := call([]int{0}, bits)
			isListFault(t, fmt.Sprint(what, " ", bits), l, f, api.ErrRange)
			l, f = call(many, bits)
			isListFault(t, what+" of many", l, f, api.ErrRange)
		}
		for _, bits := range []int{2, 48} {
			l, f := call(full, bits)
			isList(t, what, l, f, full)
			l, f = call(many, bits)
			isListFault(t, what, l, f, api.ErrLarge)
			l, f = call(append([]int{-api.MaxTime - 1}, full...), bits)
			isListFault(t, what, l, f, api.ErrLarge)
		}
	}
}

func TestWrapFaults(t *testing.T) {
	for _, l := range [][]int{{api.MaxTime + 1}, {0, -api.MaxTime - 1}, {0, api.MaxTime, api.MaxTime + 1}} {
		got, f := tick.Wrap(l, 48)
		isListFault(t, fmt.Sprint("Wrap ", l), got, f, api.ErrRange)
	}
}

func TestUnwrapFaults(t *testing.T) {
	for _, l := range [][]int{{256}, {-1}, {0, 256}, {0, 255, -1}, {1 << 48}} {
		got, f := tick.Unwrap(l, 8)
		isListFault(t, fmt.Sprint("Unwrap ", l), got, f, api.ErrRange)
	}
	got, f := tick.Unwrap([]int{1 << 48}, 48)
	isListFault(t, "Unwrap", got, f, api.ErrRange)
}

// Times that go away from 0, as far as there are times, and one further.
func TestUnwrapAtTheBound(t *testing.T) {
	for _, sign := range []int{1, -1} {
		var times []int
		for n := 0; n < api.MaxTime; n += 100000000000000 {
			times = append(times, sign*n)
		}
		for _, last := range []int{api.MaxTime, api.MaxTime + 1} {
			var counters []int
			for _, n := range append(times, sign*last) {
				counters = append(counters, n&(1<<48-1))
			}
			got, f := tick.Unwrap(counters, 48)
			if last == api.MaxTime {
				isList(t, "Unwrap", got, f, append(times, sign*last))
			} else {
				isListFault(t, "Unwrap", got, f, api.ErrRange)
			}
		}
	}
}

func TestWrapOfUnwrap(t *testing.T) {
	r := rand.New(rand.NewSource(2))
	for range 500 {
		bits := 2 + r.Intn(38)
		l := make([]int, r.Intn(20))
		for i := range l {
			l[i] = r.Intn(1 << bits)
		}
		times, f := tick.Unwrap(l, bits)
		if f != api.OK {
			t.Fatal("Unwrap", l, bits, f)
		}
		for i := 1; i < len(times); i++ {
			if d := times[i] - times[i-1]; d < -1<<(bits-1) || d >= 1<<(bits-1) {
				t.Error("Unwrap", l, bits, times)
			}
		}
		again, f := tick.Wrap(times, bits)
		isList(t, "Wrap of Unwrap", again, f, l)
	}
}

func TestUnwrapOfWrap(t *testing.T) {
	r := rand.New(rand.NewSource(3))
	for range 500 {
		bits := 2 + r.Intn(38)
		half := 1 << (bits - 1)
		l := []int{r.Intn(1<<40) - 1<<39}
		for range r.Intn(20) {
			l = append(l, l[len(l)-1]+r.Intn(2*half-1)-half+1)
		}
		counters, f := tick.Wrap(l, bits)
		if f != api.OK {
			t.Fatal("Wrap", l, bits, f)
		}
		less := l[0] - counters[0]
		var want []int
		for _, n := range l {
			want = append(want, n-less)
		}
		times, f := tick.Unwrap(counters, bits)
		isList(t, "Unwrap of Wrap", times, f, want)
	}
}

func TestCountersLeaveArguments(t *testing.T) {
	for what, call := range map[string]listCall{"Wrap": tick.Wrap, "Unwrap": tick.Unwrap} {
		guarded(t, what, []int{1, 2, 250, 3}, -7, func(l []int) []int {
			out, _ := call(l, 8)
			return out
		})
	}
}
