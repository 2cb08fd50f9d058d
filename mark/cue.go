package mark

import (
	"math"

	"headend/api"
	"headend/check"
	"headend/wire"
)

const (
	opening    = 0xFC // the first byte of each cue
	headBytes  = 3    // which tell how many follow
	sumBytes   = 4
	polynomial = 0x04C11DB7
	highest    = 1 << 31 // the first bit of a check sum
)

// Bits of what a cue has.
const (
	sizeBits  = 12
	setBits   = 4
	kindBits  = 3
	eventBits = 32
	flagBits  = 1
	timeBits  = 33
)

// Sum returns the check sum of bytes.
func Sum(b []byte) int {
	sum := uint32(math.MaxUint32)
	for _, x := range b {
		sum ^= uint32(x) << 24 // its eight bits meet the highest ones, which come first
		for range byteBits {
			differs := sum >= highest
			sum <<= 1
			if differs {
				sum ^= polynomial
			}
		}
	}
	return int(sum)
}

// meeting is what is done with a field of so many bits.
type meeting func(field *int, width int)

// walk meets the fields that a cue has in its bytes, in order. Those before tell which ones follow, so that a cue can be filled on the way.
func walk(c *api.Cue, meet meeting) {
	meetFlag := func(flag *bool) {
		n := 0
		if *flag {
			n = 1
		}
		meet(&n, flagBits)
		*flag = n == 1
	}
	meet(&c.Kind, kindBits)
	if check.Within(c.Kind, api.CueOut, api.CueCancel) {
		meet(&c.Event, eventBits)
	}
	if c.Kind == api.CueOut || c.Kind == api.CueIn {
		meetFlag(&c.Now)
		if !c.Now {
			meet(&c.Time, timeBits)
		}
	}
	if c.Kind == api.CueOut {
		meetFlag(&c.Auto)
		meet(&c.Length, timeBits)
	}
}

// used returns a cue with just those fields of another one that its Kind uses.
func used(c api.Cue) api.Cue {
	var numbers []int
	walk(&c, func(field *int, _ int) { numbers = append(numbers, *field) })
	var only api.Cue
	walk(&only, func(field *int, _ int) {
		*field = numbers[0]
		numbers = numbers[1:]
	})
	return only
}

// CheckCue validates a cue.
func CheckCue(c api.Cue) api.Fault {
	isWrapped := func(n int) bool { return check.Within(n, 0, api.Wrapped-1) }
	return check.First(
		check.If(!check.Within(c.Kind, api.CueNull, api.CueCancel), api.ErrKind),
		check.If(c != used(c), api.ErrForm),
		check.If(!check.Within(c.Event, 0, api.MaxEventId), api.ErrRange),
		check.If(!isWrapped(c.Time) || !isWrapped(c.Length), api.ErrRange),
		check.If(c.Auto && c.Length == 0, api.ErrZero),
	)
}

// sizeOf returns how many bytes a cue has whose last field ends at a bit.
func sizeOf(end int) int { return (end+leftAt(end))/byteBits + sumBytes }

// CueBytes returns the bytes of a cue.
func CueBytes(c api.Cue) ([]byte, api.Fault) {
	if fault := CheckCue(c); fault != api.OK {
		return nil, fault
	}
	end := headBytes * byteBits
	walk(&c, func(_ *int, width int) { end += width })
	var r row
	r.put(opening, byteBits)
	r.put(sizeOf(end)-headBytes, sizeBits)
	r.put(ones(setBits), setBits)
	walk(&c, func(field *int, width int) { r.put(*field, width) })
	r.put(ones(leftAt(end)), leftAt(end))
	return wire.Append(r.bytes, sumBytes, Sum(r.bytes)), api.OK
}

// ReadCue returns the cue of bytes; with a fault also its place.
func ReadCue(b []byte) (api.Cue, int, api.Fault) {
	if len(b) > api.MaxCueBytes {
		return api.Cue{}, 0, api.ErrLarge
	}
	c, end := fieldsOf(b)
	if place, isWrong := flawOf(b, c.Kind, end); isWrong {
		return api.Cue{}, place, api.ErrSyntax
	}
	behind := len(b) - sumBytes
	fault := check.First(
		check.If(wire.Number(b[behind:]) != Sum(b[:behind]), api.ErrDamaged),
		CheckCue(c),
	)
	if fault != api.OK {
		return api.Cue{}, 0, fault
	}
	return c, 0, api.OK
}

// fieldsOf returns the cue that bytes have behind their head, whatever they are, and the bit at which its last field ends.
func fieldsOf(b []byte) (api.Cue, int) {
	var c api.Cue
	end := headBytes * byteBits
	walk(&c, func(field *int, width int) {
		*field = numberAt(b, end, width)
		end += width
	})
	return c, end
}

// flawOf returns the place of the first thing that keeps bytes from being a cue, if there is one: of such a Kind, whose last field ends at a bit.
func flawOf(b []byte, kind, end int) (int, bool) {
	if len(b) < headBytes {
		return len(b), true
	}
	size := headBytes + numberAt(b, byteBits, sizeBits)
	switch {
	case b[0] != opening:
		return 0, true
	case len(b) != size:
		return min(len(b), size), true
	case kind > api.CueCancel || size != sizeOf(end):
		return 1, true
	case numberAt(b, byteBits+sizeBits, setBits) != ones(setBits):
		return 2, true
	case numberAt(b, end, leftAt(end)) != ones(leftAt(end)):
		return end / byteBits, true
	}
	return 0, false
}
