package key

import (
	"slices"

	"headend/api"
	"headend/check"
	"headend/wire"
)

const periodBytes = 8 // of the number of a period

// CheckRotation validates a rotation.
func CheckRotation(r api.Rotation) api.Fault {
	return check.First(
		check.If(!isMoment(r.Begin), api.ErrRange),
		check.If(!check.Within(r.Every, 1, api.MaxTime), api.ErrRange),
		check.If(!isMoment(r.Lead), api.ErrRange),
		check.If(len(r.Seed) > api.MaxSeed, api.ErrLarge),
	)
}

// periodAt returns the period of a time that is not before Begin.
func periodAt(r api.Rotation, time int) int { return (time - r.Begin) / r.Every }

// PeriodAt returns the number of the period of a time.
func PeriodAt(r api.Rotation, time int) (int, api.Fault) {
	fault := check.First(
		CheckRotation(r),
		check.If(!isMoment(time), api.ErrRange),
		check.If(time < r.Begin, api.ErrNone),
	)
	if fault != api.OK {
		return 0, fault
	}
	return periodAt(r, time), api.OK
}

// keyId returns the digest of the Seed, with the number of a period behind it.
func keyId(r api.Rotation, period int) []byte {
	number := wire.Append(nil, periodBytes, period)
	return Digest(slices.Concat(r.Seed, number))
}

// KeyId returns what the key of a period is called.
func KeyId(r api.Rotation, period int) ([]byte, api.Fault) {
	fault := check.First(
		CheckRotation(r),
		check.If(!isPeriod(period), api.ErrRange),
	)
	if fault != api.OK {
		return nil, fault
	}
	return keyId(r, period), api.OK
}

// KeyOf returns the key of a period, which is made of a secret.
func KeyOf(r api.Rotation, secret []byte, period int) ([]byte, api.Fault) {
	fault := check.First(
		CheckRotation(r),
		check.If(len(secret) > api.MaxSeed, api.ErrLarge),
		check.If(!isPeriod(period), api.ErrRange),
	)
	if fault != api.OK {
		return nil, fault
	}
	return Digest(slices.Concat(secret, keyId(r, period))), api.OK
}

// Needed returns the periods whose keys one must have to play a span, and what comes soon after it.
func Needed(r api.Rotation, w api.Span) ([]int, api.Fault) {
	fault := check.First(
		CheckRotation(r),
		check.If(!isMoment(w.From) || !isMoment(w.To), api.ErrRange),
		check.If(w.To <= w.From, api.ErrOrder),
	)
	if fault != api.OK {
		return nil, fault
	}
	end := w.To + r.Lead
	if end <= r.Begin {
		return nil, api.OK
	}
	first, last := periodAt(r, max(w.From, r.Begin)), periodAt(r, end-1)
	if last-first >= api.MaxNeeded || last > api.MaxPeriods {
		return nil, api.ErrLarge
	}
	var needed []int
	for period := first; period <= last; period++ {
		needed = append(needed, period)
	}
	return needed, api.OK
}
