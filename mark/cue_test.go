package mark_test

import (
	"bytes"
	"fmt"
	"math/rand"
	"slices"
	"strconv"
	"strings"
	"testing"

	"headend/api"
	"headend/mark"
)

// sumOf is the check sum of bytes, bit by bit, as the document says it.
func sumOf(b []byte) int {
	number := 1<<32 - 1
	for _, x := range b {
		for place := 7; place >= 0; place-- {
			highest, bit := number>>31, int(x>>place)&1
			number = number * 2 % (1 << 32)
			if highest != bit {
				number ^= 0x04C11DB7
			}
		}
	}
	return number
}

// withSum returns bytes with their Sum behind them.
func withSum(b []byte) []byte {
	n := sumOf(b)
	return append(slices.Clone(b), byte(n>>24), byte(n>>16), byte(n>>8), byte(n))
}

// repaired returns bytes of which the last four are the Sum of all others.
func repaired(b []byte) []byte { return withSum(b[:len(b)-4]) }

func TestSum(t *testing.T) {
	for text, want := range map[string]int{"": 0xFFFFFFFF, "123456789": 0x0376E6E7, "\x00": 0x4E08BFB4, "\xFF\xFF\xFF\xFF": 0} {
		if n := mark.Sum([]byte(text)); n != want {
			t.Errorf("Sum of %q: %#x, want %#x", text, n, want)
		}
	}
	r := rand.New(rand.NewSource(1))
	for n := range 600 {
		b := make([]byte, n)
		r.Read(b)
		if got := mark.Sum(b); got != sumOf(b) {
			t.Errorf("Sum of %x: %#x, want %#x", b, got, sumOf(b))
		}
		whole := withSum(b)
		if got := mark.Sum(whole); got != 0 {
			t.Errorf("Sum of %x: %#x", whole, got)
		}
		place := r.Intn(len(whole))
		whole[place] ^= 1 << r.Intn(8)
		if mark.Sum(whole) == 0 {
			t.Errorf("Sum of %x, which is damaged at %d", whole, place)
		}
	}
	if n := mark.Sum(nil); n != 0xFFFFFFFF {
		t.Errorf("Sum of nil: %#x", n)
	}
}

// cues are one of each form, with ordinary, least and greatest values.
var cues = []api.Cue{
	{},
	{Kind: api.CueOut, Event: 7, Time: 90000, Length: 2700000, Auto: true},
	{Kind: api.CueOut, Event: 7, Time: 90000, Length: 2700000},
	{Kind: api.CueOut, Event: 7, Time: 90000},
	{Kind: api.CueOut, Event: 7, Now: true, Length: 2700000, Auto: true},
	{Kind: api.CueOut, Event: 7, Now: true},
	{Kind: api.CueOut},
	{Kind: api.CueOut, Length: 1, Auto: true},
	{Kind: api.CueOut, Event: api.MaxEventId, Time: api.Wrapped - 1, Length: api.Wrapped - 1, Auto: true},
	{Kind: api.CueOut, Event: api.MaxEventId, Now: true, Length: api.Wrapped - 1, Auto: true},
	{Kind: api.CueIn, Event: 7, Time: 90000},
	{Kind: api.CueIn, Event: 7, Now: true},
	{Kind: api.CueIn},
	{Kind: api.CueIn, Event: api.MaxEventId, Time: api.Wrapped - 1},
	{Kind: api.CueIn, Event: api.MaxEventId, Now: true},
	{Kind: api.CueCancel, Event: 7},
	{Kind: api.CueCancel},
	{Kind: api.CueCancel, Event: api.MaxEventId},
}

func TestCheckCue(t *testing.T) {
	for _, c := range cues {
		isFault(t, "CheckCue "+text(c), mark.CheckCue(c), api.OK)
	}
	for _, c := range []struct {
		cue  api.Cue
		want api.Fault
	}{
		{api.Cue{Kind: -1}, api.ErrKind},
		{api.Cue{Kind: 4}, api.ErrKind},
		{api.Cue{Kind: 8}, api.ErrKind},
		{api.Cue{Event: 1}, api.ErrForm},
		{api.Cue{Now: true}, api.ErrForm},
		{api.Cue{Time: 1}, api.ErrForm},
		{api.Cue{Length: 1}, api.ErrForm},
		{api.Cue{Auto: true}, api.ErrForm},
		{api.Cue{Event: -1}, api.ErrForm},
		{api.Cue{Kind: api.CueOut, Now: true, Time: 1}, api.ErrForm},
		{api.Cue{Kind: api.CueOut, Now: true, Time: -1, Event: -1}, api.ErrForm},
		{api.Cue{Kind: api.CueIn, Length: 1}, api.ErrForm},
		{api.Cue{Kind: api.CueIn, Auto: true}, api.ErrForm},
		{api.Cue{Kind: api.CueIn, Now: true, Time: 1}, api.ErrForm},
		{api.Cue{Kind: api.CueIn, Now: true, Length: api.Wrapped}, api.ErrForm},
		{api.Cue{Kind: api.CueCancel, Now: true}, api.ErrForm},
		{api.Cue{Kind: api.CueCancel, Time: 1}, api.ErrForm},
		{api.Cue{Kind: api.CueCancel, Length: 1}, api.ErrForm},
		{api.Cue{Kind: api.CueCancel, Auto: true}, api.ErrForm},
		{api.Cue{Kind: api.CueCancel, Auto: true, Event: -1}, api.ErrForm},
		{api.Cue{Kind: api.CueOut, Event: -1}, api.ErrRange},
		{api.Cue{Kind: api.CueOut, Event: api.MaxEventId + 1}, api.ErrRange},
		{api.Cue{Kind: api.CueIn, Event: -1, Now: true}, api.ErrRange},
		{api.Cue{Kind: api.CueCancel, Event: api.MaxEventId + 1}, api.ErrRange},
		{api.Cue{Kind: api.CueOut, Time: -1}, api.ErrRange},
		{api.Cue{Kind: api.CueOut, Time: api.Wrapped}, api.ErrRange},
		{api.Cue{Kind: api.CueIn, Time: -1}, api.ErrRange},
		{api.Cue{Kind: api.CueIn, Time: api.Wrapped}, api.ErrRange},
		{api.Cue{Kind: api.CueOut, Length: -1, Auto: true}, api.ErrRange},
		{api.Cue{Kind: api.CueOut, Length: api.Wrapped, Now: true}, api.ErrRange},
		{api.Cue{Kind: api.CueOut, Auto: true}, api.ErrZero},
		{api.Cue{Kind: api.CueOut, Now: true, Auto: true}, api.ErrZero},
	} {
		isFault(t, "CheckCue "+text(c.cue), mark.CheckCue(c.cue), c.want)
		b, f := mark.CueBytes(c.cue)
		isNot(t, "CueBytes "+text(c.cue), b, f, c.want)
	}
	inOrder(t, "CheckCue", func() api.Cue { return api.Cue{Kind: api.CueOut, Now: true} }, mark.CheckCue, []wrong[api.Cue]{
		{"Kind", api.ErrKind, func(c *api.Cue) { c.Kind = 4 }},
		{"Time with Now", api.ErrForm, func(c *api.Cue) { c.Time = -1 }},
		{"Event", api.ErrRange, func(c *api.Cue) { c.Event = -1 }},
		{"Auto without Length", api.ErrZero, func(c *api.Cue) { c.Auto = true }},
	})
	inOrder(t, "CheckCue", func() api.Cue { return api.Cue{Kind: api.CueOut} }, mark.CheckCue, []wrong[api.Cue]{
		{"Time", api.ErrRange, func(c *api.Cue) { c.Time = -1 }},
		{"Auto without Length", api.ErrZero, func(c *api.Cue) { c.Auto = true }},
	})
}

func binary(n, width int) string { return fmt.Sprintf("%0*b", width, n) }

func flag(is bool) string {
	if is {
		return "1"
	}
	return "0"
}

// bytesOf returns the bytes of a cue, by way of all its bits, as the document says them.
func bytesOf(c api.Cue) []byte {
	bits := binary(c.Kind, 3)
	if c.Kind != api.CueNull {
		bits += binary(c.Event, 32)
	}
	if c.Kind == api.CueOut || c.Kind == api.CueIn {
		bits += flag(c.Now)
		if !c.Now {
			bits += binary(c.Time, 33)
		}
	}
	if c.Kind == api.CueOut {
		bits += flag(c.Auto) + binary(c.Length, 33)
	}
	for len(bits)%8 > 0 {
		bits += "1"
	}
	bits = binary(0xFC, 8) + binary(len(bits)/8+4, 12) + "1111" + bits
	var b []byte
	for i := 0; i < len(bits); i += 8 {
		n, _ := strconv.ParseUint(bits[i:i+8], 2, 8)
		b = append(b, byte(n))
	}
	return withSum(b)
}

// drawCue returns a cue that is right.
func drawCue(r *rand.Rand) api.Cue {
	c := cues[r.Intn(len(cues))]
	if c.Kind != api.CueNull {
		c.Event = r.Intn(api.MaxEventId + 1)
	}
	if c.Time > 0 {
		c.Time = r.Intn(api.Wrapped)
	}
	if c.Length > 0 {
		c.Length = 1 + r.Intn(api.Wrapped-1)
	}
	return c
}

func TestCueBytes(t *testing.T) {
	for _, c := range cues {
		b, f := mark.CueBytes(c)
		is(t, "CueBytes "+text(c), b, f, bytesOf(c))
	}
	for digits, c := range map[string]api.Cue{
		"fc005f1fb0dd63d4":                         {},
		"fc011f20000000e0000afc84005265c1791da8e0": {Kind: api.CueOut, Event: 7, Time: 90000, Length: 2700000, Auto: true},
		"fc00df20000000f00000000367c7c772":         {Kind: api.CueOut, Event: 7, Now: true},
		"fc00df40000000e0000afc87fea341ae":         {Kind: api.CueIn, Event: 7, Time: 90000},
		"fc009f40000000ffdea9f6c5":                 {Kind: api.CueIn, Event: 7, Now: true},
		"fc009f60000000ffddccf76a":                 {Kind: api.CueCancel, Event: 7},
	} {
		b, f := mark.CueBytes(c)
		is(t, "CueBytes "+text(c), fmt.Sprintf("%x", b), f, digits)
	}
}

// read is what ReadCue returns.
type read struct {
	cue   api.Cue
	place int
}

func TestCuesComeBack(t *testing.T) {
	r := rand.New(rand.NewSource(2))
	for range 5000 {
		c := drawCue(r)
		b, f := mark.CueBytes(c)
		is(t, "CueBytes "+text(c), b, f, bytesOf(c))
		back, place, f := mark.ReadCue(b)
		is(t, fmt.Sprintf("ReadCue %x", b), read{back, place}, f, read{c, 0})
	}
}

// wholeSize returns how many bytes a cue has, or 0, if there is no such Kind.
func wholeSize(kind int, isNow bool) int {
	switch {
	case kind == api.CueNull:
		return 8
	case kind == api.CueOut && !isNow:
		return 20
	case kind == api.CueOut || kind == api.CueIn && !isNow:
		return 16
	case kind == api.CueIn || kind == api.CueCancel:
		return 12
	}
	return 0
}

// paddedAt returns the bit from which on the last byte of the fields is filled with bits of 1.
func paddedAt(kind int, isNow bool) int {
	bits := map[int]int{api.CueNull: 3, api.CueOut: 103, api.CueIn: 69, api.CueCancel: 35}[kind]
	if isNow {
		bits -= 33
	}
	return 24 + bits
}

// flawOf says what ReadCue has to say of bytes, up to their check sum.
func flawOf(b []byte) (int, api.Fault) {
	switch {
	case len(b) > 300:
		return 0, api.ErrLarge
	case len(b) < 3:
		return len(b), api.ErrSyntax
	case b[0] != 0xFC:
		return 0, api.ErrSyntax
	}
	size := 3 + int(b[1])*16 + int(b[2])/16
	if len(b) != size {
		return min(len(b), size), api.ErrSyntax
	}
	if size < 8 {
		return 1, api.ErrSyntax
	}
	bits := ""
	for _, x := range b {
		bits += binary(int(x), 8)
	}
	kind := int(b[3]) / 32
	isNow := (kind == api.CueOut || kind == api.CueIn) && bits[24+3+32] == '1'
	if size != wholeSize(kind, isNow) {
		return 1, api.ErrSyntax
	}
	if bits[20:24] != "1111" {
		return 2, api.ErrSyntax
	}
	if i := strings.IndexByte(bits[paddedAt(kind, isNow):len(bits)-32], '0'); i >= 0 {
		return (paddedAt(kind, isNow) + i) / 8, api.ErrSyntax
	}
	if n := len(b) - 4; !bytes.Equal(withSum(b[:n]), b) {
		return 0, api.ErrDamaged
	}
	return 0, api.OK
}

// reads expects of ReadCue what the document says of bytes.
func reads(t *testing.T, b []byte) api.Fault {
	t.Helper()
	what := fmt.Sprintf("ReadCue %x", b)
	c, place, f := mark.ReadCue(b)
	wantPlace, want := flawOf(b)
	if want == api.OK && f == api.ErrZero && c == (api.Cue{}) && place == 0 {
		if isAuto, digits := autoOf(b); !isAuto || strings.Contains(digits, "1") {
			t.Error(what, "has a Length, or is not Auto")
		}
		return f
	}
	if f != want || place != wantPlace {
		t.Errorf("%s: fault %d at %d, want fault %d at %d", what, f, place, want, wantPlace)
	}
	if f != api.OK && c != (api.Cue{}) {
		t.Error(what, "with fault", f, "returns", c)
	}
	if f == api.OK && !bytes.Equal(bytesOf(c), b) {
		t.Errorf("%s: %v has the bytes %x", what, c, bytesOf(c))
	}
	return f
}

// autoOf returns Auto of the bytes of a CueOut, with Now or without, and the bits of its Length.
func autoOf(b []byte) (bool, string) {
	bits := ""
	for _, x := range b {
		bits += binary(int(x), 8)
	}
	at := paddedAt(api.CueOut, len(b) == 16)
	return bits[at-34] == '1', bits[at-33 : at]
}

// What is changed, at one or two places, is told; also if the check sum is that of what is there.
func TestChangedBits(t *testing.T) {
	faults := map[api.Fault]int{}
	for _, c := range cues {
		whole := bytesOf(c)
		for first := range 8 * len(whole) {
			for second := first; second < 8*len(whole); second++ {
				b := slices.Clone(whole)
				b[first/8] ^= 128 >> (first % 8)
				if second != first {
					b[second/8] ^= 128 >> (second % 8)
				}
				if f := reads(t, b); f != api.ErrSyntax && f != api.ErrDamaged {
					t.Errorf("ReadCue %x: fault %d", b, f)
				}
				if second-first < 12 {
					faults[reads(t, repaired(b))]++
				}
			}
		}
	}
	for _, f := range []api.Fault{api.OK, api.ErrSyntax, api.ErrZero} {
		if faults[f] < 10 {
			t.Error("too few with fault", f, faults)
		}
	}
}

func TestChangedBytes(t *testing.T) {
	for _, c := range cues {
		whole := bytesOf(c)
		for place := range whole {
			for x := range 256 {
				b := slices.Clone(whole)
				b[place] = byte(x)
				reads(t, b)
				reads(t, repaired(b))
			}
		}
	}
}

func TestTooManyOrTooFewBytes(t *testing.T) {
	for _, c := range cues {
		whole := bytesOf(c)
		for n := range len(whole) {
			got, place, f := mark.ReadCue(whole[:n])
			isNot(t, fmt.Sprintf("ReadCue %x", whole[:n]), got, f, api.ErrSyntax)
			if place != n {
				t.Error("ReadCue: place", place, "of", n)
			}
			reads(t, whole[:n])
		}
		for n := 1; n <= api.MaxCueBytes+5; n++ {
			b := append(slices.Clone(whole), make([]byte, n)...)
			got, place, f := mark.ReadCue(b)
			want, at := api.ErrSyntax, len(whole)
			if len(b) > api.MaxCueBytes {
				want, at = api.ErrLarge, 0
			}
			isNot(t, fmt.Sprintf("ReadCue %x", b), got, f, want)
			if place != at {
				t.Error("ReadCue: place", place, "want", at)
			}
			reads(t, b)
		}
	}
}

// Heads that say any number of bytes, with as many or with others behind them.
func TestAnySize(t *testing.T) {
	for kind := range 8 {
		for said := range 310 {
			for _, n := range []int{said, said - 1, said + 1} {
				b := append([]byte{0xFC, byte(said >> 4), byte(said<<4) | 15, byte(kind<<5) | 31}, slices.Repeat([]byte{255}, max(n-1, 0))...)
				reads(t, b[:3+max(n, 0)])
				b[0] = 0xFB
				reads(t, b[:3+max(n, 0)])
			}
		}
	}
}

func TestReadCueOrder(t *testing.T) {
	at := func(place int, fault api.Fault, change func(b []byte) []byte) func(b *[]byte) (int, api.Fault) {
		return func(b *[]byte) (int, api.Fault) {
			*b = change(*b)
			return place, fault
		}
	}
	same := func(change func(b []byte)) func(b []byte) []byte {
		return func(b []byte) []byte {
			change(b)
			return b
		}
	}
	wrongs := []func(b *[]byte) (int, api.Fault){
		at(0, api.ErrLarge, func(b []byte) []byte { return append(b, make([]byte, api.MaxCueBytes)...) }),
		at(0, api.ErrSyntax, same(func(b []byte) { b[0] = 0xFD })),
		at(15, api.ErrSyntax, func(b []byte) []byte { return b[:15] }),
		at(1, api.ErrSyntax, same(func(b []byte) { b[3] |= 0x40 })),
		at(2, api.ErrSyntax, same(func(b []byte) { b[2] &^= 4 })),
		at(11, api.ErrSyntax, same(func(b []byte) { b[11] &^= 2 })),
		at(0, api.ErrDamaged, same(func(b []byte) { b[4] ^= 1 })),
	}
	for i, first := range wrongs {
		for later := i; later < len(wrongs); later++ {
			b := bytesOf(api.Cue{Kind: api.CueOut, Event: 5, Now: true, Length: 9})
			if later != i {
				wrongs[later](&b)
			}
			place, fault := first(&b)
			if _, got, f := mark.ReadCue(b); f != fault || got != place {
				t.Errorf("wrong %d before %d: fault %d at %d, want fault %d at %d", i, later, f, got, fault, place)
			}
		}
	}
	zero := bytesOf(api.Cue{Kind: api.CueOut, Event: 5, Now: true, Auto: true})
	c, place, f := mark.ReadCue(zero)
	isNot(t, "ReadCue with Auto, but no Length", read{c, place}, f, api.ErrZero)
	zero[4] ^= 1
	c, place, f = mark.ReadCue(zero)
	isNot(t, "ReadCue with Auto, but no Length, and damaged", read{c, place}, f, api.ErrDamaged)
}
