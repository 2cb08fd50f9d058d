package cut_test

import (
	"bytes"
	"encoding/binary"
	"fmt"
	"math"
	"math/rand"
	"slices"
	"testing"

	"headend/api"
	"headend/cut"
)

// indexOf writes an index by hand, with pairs of Bytes and Length.
func indexOf(scale, number, begin, n int, pairs ...int) []byte {
	b := binary.BigEndian.AppendUint32(nil, uint32(scale))
	b = binary.BigEndian.AppendUint64(b, uint64(number))
	b = binary.BigEndian.AppendUint64(b, uint64(begin))
	b = binary.BigEndian.AppendUint16(b, uint16(n))
	for _, x := range pairs {
		b = binary.BigEndian.AppendUint32(b, uint32(x))
	}
	return b
}

// listed returns segments as an index has them, with pairs of Bytes and Length.
func listed(number, begin int, pairs ...int) []api.Segment {
	var l []api.Segment
	for i := 0; i+1 < len(pairs); i += 2 {
		l = append(l, api.Segment{Number: number, Begin: begin, Length: pairs[i+1], Bytes: pairs[i]})
		number, begin = number+1, begin+pairs[i+1]
	}
	return l
}

const field = 1<<32 - 1 // the greatest number of four bytes

func TestIndex(t *testing.T) {
	for what, c := range map[string]struct {
		l     []api.Segment
		scale int
		want  []byte
	}{
		"two":                {listed(4, 10, 100, 6, 50, 4), 1000, indexOf(1000, 4, 10, 2, 100, 6, 50, 4)},
		"none":               {nil, 1, indexOf(1, 0, 0, 0)},
		"one":                {listed(0, 0, 0, 0), 1, indexOf(1, 0, 0, 1, 0, 0)},
		"below 0":            {listed(7, -30, 1, 20, 2, 20), api.MaxScale, indexOf(api.MaxScale, 7, -30, 2, 1, 20, 2, 20)},
		"the least time":     {listed(0, -api.MaxTime, 1, 1), 1, indexOf(1, 0, -api.MaxTime, 1, 1, 1)},
		"the greatest":       {listed(api.MaxTime, api.MaxTime, field, field), api.MaxScale, indexOf(api.MaxScale, api.MaxTime, api.MaxTime, 1, field, field)},
		"the greatest bound": {listed(0, api.MaxTime-field, 1, field, 1, field), 1, indexOf(1, 0, api.MaxTime-field, 2, 1, field, 1, field)},
	} {
		b, f := cut.IndexBytes(c.l, c.scale)
		is(t, "IndexBytes "+what, b, f, c.want)
		l, scale, place, f := cut.ReadIndex(c.want)
		is(t, "ReadIndex "+what, l, f, c.l)
		is(t, "ReadIndex "+what, pair{scale, place}, f, pair{c.scale, 0})
	}
	two := indexOf(0x01020304, 0x05060708090a, 0x0b0c0d0e, 0x0001, 0x11121314, 0x15161718)
	if !bytes.Equal(two, []byte{1, 2, 3, 4, 0, 0, 5, 6, 7, 8, 9, 10, 0, 0, 0, 0, 11, 12, 13, 14, 0, 1, 0x11, 0x12, 0x13, 0x14, 0x15, 0x16, 0x17, 0x18}) {
		t.Error("indexOf", two)
	}
}

// What an index does not have is not read again.
func TestIndexForgets(t *testing.T) {
	l := []api.Segment{
		{Number: 3, From: 7, To: 2, Begin: 5, Length: 10, Bytes: 1, Lead: 2},
		{Number: 4, From: -1, To: -1, Begin: 20, Length: 10, Bytes: 1, Lead: -3},
	}
	want := listed(3, 7, 1, 10, 1, 10)
	b, f := cut.IndexBytes(l, 9)
	is(t, "IndexBytes", b, f, indexOf(9, 3, 7, 2, 1, 10, 1, 10))
	got, scale, place, f := cut.ReadIndex(b)
	is(t, "ReadIndex", got, f, want)
	is(t, "ReadIndex", pair{scale, place}, f, pair{9, 0})
	// Begin and Lead need be no times, if their sum is one
	l = []api.Segment{{Begin: math.MaxInt, Lead: -math.MaxInt, Length: 5}, {Number: 1, Begin: math.MinInt + 5, Lead: math.MaxInt, Length: 5}}
	l[1].Lead, l[1].Begin = math.MaxInt, 5-math.MaxInt
	b, f = cut.IndexBytes(l, 1)
	is(t, "IndexBytes", b, f, indexOf(1, 0, 0, 2, 0, 5, 0, 5))
}

func TestIndexFaults(t *testing.T) {
	good := listed(4, 10, 100, 6, 50, 4)
	for what, c := range map[string]struct {
		l     []api.Segment
		scale int
		want  api.Fault
	}{
		"scale 0":              {nil, 0, api.ErrRange},
		"scale":                {make([]api.Segment, api.MaxCuts+1), api.MaxScale + 1, api.ErrRange},
		"too many":             {make([]api.Segment, api.MaxCuts+1), 1, api.ErrLarge},
		"Number below 0":       {listed(-1, 0, 0, 0), 1, api.ErrRange},
		"Number":               {listed(api.MaxTime+1, 0, 0, 0), 1, api.ErrRange},
		"Number of the second": {listed(api.MaxTime, 0, 0, 0, 0, 0), 1, api.ErrRange},
		"Begin":                {listed(0, api.MaxTime+1, 0, 0), 1, api.ErrRange},
		"Begin below 0":        {listed(0, -api.MaxTime-1, 0, 0), 1, api.ErrRange},
		"Begin of the second":  {listed(0, api.MaxTime, 0, 1, 0, 0), 1, api.ErrRange},
		"Begin plus Lead":      {[]api.Segment{{Begin: api.MaxTime, Lead: 1}}, 1, api.ErrRange},
		"Begin less Lead":      {[]api.Segment{{Begin: -api.MaxTime, Lead: -1}}, 1, api.ErrRange},
		"the greatest sum":     {[]api.Segment{{Begin: math.MaxInt, Lead: math.MaxInt}}, 1, api.ErrRange}, // not -2
		"the least sum":        {[]api.Segment{{Begin: math.MinInt, Lead: math.MinInt}}, 1, api.ErrRange}, // not 0
		"Bytes below 0":        {listed(0, 0, -1, 0), 1, api.ErrRange},
		"Bytes":                {listed(0, 0, field+1, 0), 1, api.ErrRange},
		"Length below 0":       {listed(0, 0, 0, -1), 1, api.ErrRange},
		"Length":               {listed(0, 0, 0, field+1), 1, api.ErrRange},
		"no order":             {changed(good, 1, func(s *api.Segment) { s.Number++ }), 1, api.ErrOrder},
		"the same Number":      {changed(good, 1, func(s *api.Segment) { s.Number-- }), 1, api.ErrOrder},
		"a gap":                {changed(good, 1, func(s *api.Segment) { s.Begin++ }), 1, api.ErrOrder},
		"no gap, but a Lead":   {changed(good, 1, func(s *api.Segment) { s.Lead++ }), 1, api.ErrOrder},
		"earlier":              {changed(good, 1, func(s *api.Segment) { s.Begin-- }), 1, api.ErrOrder},
		"range before order":   {changed(good, 1, func(s *api.Segment) { s.Number++; s.Length = -1 }), 1, api.ErrRange},
		"one after another":    {changed(listed(4, 10, 1, 1, 1, 1, -1, 1), 1, func(s *api.Segment) { s.Number++ }), 1, api.ErrOrder},
	} {
		b, f := cut.IndexBytes(c.l, c.scale)
		isNot(t, "IndexBytes "+what, b, f, c.want)
	}
}

// notRead expects a fault with a place, and nothing else.
func notRead(t *testing.T, what string, b []byte, place int, want api.Fault) {
	t.Helper()
	l, scale, at, f := cut.ReadIndex(b)
	isNot(t, "ReadIndex "+what, l, f, want)
	if scale != 0 || at != place {
		t.Errorf("ReadIndex %s: got scale %d and place %d, want place %d", what, scale, at, place)
	}
}

func TestReadIndexFaults(t *testing.T) {
	pairs := func(n int) []int { return slices.Repeat([]int{1}, 2*n) }
	notRead(t, "nothing", nil, 0, api.ErrSyntax)
	notRead(t, "too many bytes", make([]byte, api.MaxIndex+1), 0, api.ErrLarge)
	notRead(t, "many bytes that are too many", make([]byte, api.MaxIndex), 22, api.ErrSyntax)
	notRead(t, "a byte that is too many", append(indexOf(0, 1, 1, 1, 1, 1), 0), 30, api.ErrSyntax)
	notRead(t, "a byte that is too many without segments", append(indexOf(1, 0, 0, 0), 7), 22, api.ErrSyntax)
	notRead(t, "fewer than they say", indexOf(1, 0, 0, 2, 1, 1), 30, api.ErrSyntax)
	notRead(t, "most that they can say", indexOf(1, 0, 0, 65535, 1, 1, 1), 34, api.ErrSyntax)
	notRead(t, "scale 0", indexOf(0, 0, 0, 0), 0, api.ErrRange)
	notRead(t, "scale", indexOf(api.MaxScale+1, 1, 1, 0), 0, api.ErrRange) // before the form
	notRead(t, "too many segments", indexOf(1, -1, 0, api.MaxCuts+1, pairs(api.MaxCuts+1)...), 0, api.ErrLarge)
	notRead(t, "far too many segments", indexOf(1, 0, 0, 12497, pairs(12497)...), 0, api.ErrLarge)
	notRead(t, "Number below 0", indexOf(1, -1, 0, 1, 1, 1), 0, api.ErrRange)
	notRead(t, "Number", indexOf(1, api.MaxTime+1, 0, 1, 1, 1), 0, api.ErrRange)
	notRead(t, "Number of the second", indexOf(1, api.MaxTime, 0, 2, 1, 1, 1, 1), 0, api.ErrRange)
	notRead(t, "the greatest Number", indexOf(1, math.MaxInt, 0, 2, 1, 1, 1, 1), 0, api.ErrRange)
	notRead(t, "Begin below 0", indexOf(1, 0, -api.MaxTime-1, 1, 1, 1), 0, api.ErrRange)
	notRead(t, "Begin of the second", indexOf(1, 0, api.MaxTime, 2, 1, 1, 1, 1), 0, api.ErrRange)
	notRead(t, "the greatest Begin", indexOf(1, 0, math.MaxInt, 2, 1, 1, 1, 1), 0, api.ErrRange)
	notRead(t, "Number without segments", indexOf(1, 1, 0, 0), 0, api.ErrForm)
	notRead(t, "Begin without segments", indexOf(1, 0, 1, 0), 0, api.ErrForm)
	notRead(t, "bad ones without segments", indexOf(1, -1, math.MinInt, 0), 0, api.ErrForm)
	// at each place at which they can end
	b := indexOf(1, 4, 10, 2, 100, 6, 50, 4)
	places := []int{0, 4, 12, 20, 22, 26, 30, 34}
	for end := range b {
		i, found := slices.BinarySearch(places, end)
		if !found {
			i--
		}
		notRead(t, fmt.Sprint("up to ", end), b[:end], places[i], api.ErrSyntax)
	}
}

// As many segments as there can be, and of any bytes those that can be read are just these bytes.
func TestManyIndexes(t *testing.T) {
	var pairs []int
	for i := range api.MaxCuts {
		pairs = append(pairs, i, field-i)
	}
	most := listed(api.MaxTime-api.MaxCuts+1, -api.MaxTime, pairs...)
	b, f := cut.IndexBytes(most, 90000)
	is(t, "IndexBytes", b, f, indexOf(90000, api.MaxTime-api.MaxCuts+1, -api.MaxTime, api.MaxCuts, pairs...))
	l, _, _, f := cut.ReadIndex(b)
	is(t, "ReadIndex", l, f, most)
	r := rand.New(rand.NewSource(9))
	read := 0
	for range 20000 {
		n := r.Intn(4)
		b := indexOf(1+r.Intn(5), r.Intn(5), r.Intn(9)-4, n, make([]int, 2*n)...)
		for range r.Intn(3) {
			b[r.Intn(len(b))] = byte(r.Intn(256))
		}
		l, scale, place, f := cut.ReadIndex(b)
		if f != api.OK {
			isNot(t, "ReadIndex", l, f, f)
			continue
		}
		read++
		again, f := cut.IndexBytes(l, scale)
		is(t, fmt.Sprint("IndexBytes of ", b), again, f, b)
		is(t, "ReadIndex", place, f, 0)
	}
	if read < 5000 {
		t.Error("too few indexes", read)
	}
}
