package box

import (
	"headend/api"
	"headend/check"
	"headend/wire"
)

// Marks of a fragment.
const (
	sameSteps = 1 // all Steps are equal
	noShifts  = 2 // all Shifts are 0
	sameSizes = 4 // all Sizes are equal
	firstKey  = 8 // just the first sample is a Key
	allMarks  = 15
)

// Places of what is in the bytes of a fragment.
const (
	placeOfTime  = 4
	placeOfMarks = 14
)

const maxNumber = 1<<32 - 1

// marksOf returns all marks that are true for samples.
func marksOf(l []api.Sample) int {
	marks := allMarks
	if len(l) == 0 {
		marks &^= firstKey
	}
	for i, s := range l {
		if s.Step != l[0].Step {
			marks &^= sameSteps
		}
		if s.Shift != 0 {
			marks &^= noShifts
		}
		if s.Size != l[0].Size {
			marks &^= sameSizes
		}
		if s.Key != (i == 0) {
			marks &^= firstKey
		}
	}
	return marks
}

// written returns of how many samples something is written: of all n, or, if its mark is set, of no more than a few.
func written(n, marks, mark, few int) int {
	if marks&mark != 0 {
		return min(n, few)
	}
	return n
}

func checkFragment(f api.Fragment) api.Fault {
	return check.First(
		check.If(!check.Within(f.Number, 0, maxNumber), api.ErrRange),
		CheckSamples(f.Samples),
	)
}

// FragmentBytes writes a fragment.
func FragmentBytes(f api.Fragment) ([]byte, api.Fault) {
	if fault := checkFragment(f); fault != api.OK {
		return nil, fault
	}
	n, time, marks := len(f.Samples), 0, marksOf(f.Samples)
	if n > 0 {
		time = f.Samples[0].Time
	}
	b := wire.Append(nil, 4, f.Number)
	b = wire.Append(b, 8, time)
	b = wire.Append(b, 2, n)
	b = wire.Append(b, 1, marks)
	for _, s := range f.Samples[:written(n, marks, sameSteps, 1)] {
		b = wire.Append(b, 4, s.Step)
	}
	for _, s := range f.Samples[:written(n, marks, noShifts, 0)] {
		b = wire.Append(b, 4, s.Shift)
	}
	for _, s := range f.Samples[:written(n, marks, sameSizes, 1)] {
		b = wire.Append(b, 4, s.Size)
	}
	for _, s := range f.Samples[:written(n, marks, firstKey, 0)] {
		if s.Key {
			b = append(b, 1)
		} else {
			b = append(b, 0)
		}
	}
	return b, api.OK
}

// ReadFragment returns the fragment of bytes, or the place of what is wrong.
func ReadFragment(b []byte) (api.Fragment, int, api.Fault) {
	r := readerOf(b)
	number := r.Number(4)
	time := r.Number(8)
	n := r.Number(2)
	marks := r.small(allMarks)
	l := r.samples(n, time, marks)
	r.End()
	switch {
	case r.Stuck:
		return api.Fragment{}, r.At, api.ErrSyntax
	case n == 0 && time != 0:
		return api.Fragment{}, placeOfTime, api.ErrForm
	case marks != marksOf(l):
		return api.Fragment{}, placeOfMarks, api.ErrForm
	}
	if fault := CheckSamples(l); fault != api.OK {
		return api.Fragment{}, 0, fault
	}
	return api.Fragment{Number: number, Samples: l}, 0, api.OK
}

// samples takes what is behind the marks of a fragment with n samples from a time on.
func (r *reader) samples(n, time, marks int) []api.Sample {
	l := make([]api.Sample, n)
	for i := range written(n, marks, sameSteps, 1) {
		l[i].Step = r.Number(4)
	}
	for i := range written(n, marks, noShifts, 0) {
		l[i].Shift = r.signed()
	}
	for i := range written(n, marks, sameSizes, 1) {
		l[i].Size = r.Number(4)
	}
	for i := range written(n, marks, firstKey, 0) {
		l[i].Key = r.small(1) == 1
	}
	for i := range l {
		if marks&sameSteps != 0 {
			l[i].Step = l[0].Step
		}
		if marks&sameSizes != 0 {
			l[i].Size = l[0].Size
		}
		if marks&firstKey != 0 {
			l[i].Key = i == 0
		}
		l[i].Time = time
		time += l[i].Step
	}
	return l
}

// Fragments returns the fragments of samples, n in each one, the last one with as many as are left.
func Fragments(l []api.Sample, n int) ([]api.Fragment, api.Fault) {
	fault := check.First(
		CheckSamples(l),
		check.If(!check.Within(n, 1, api.MaxSamples), api.ErrRange),
	)
	if fault != api.OK {
		return nil, fault
	}
	var out []api.Fragment
	for from := 0; from < len(l); from += n {
		part := l[from:min(from+n, len(l))]
		out = append(out, api.Fragment{Number: len(out) + 1, Samples: copied(part)})
	}
	return out, api.OK
}

// Joined returns the samples of fragments.
func Joined(l []api.Fragment) ([]api.Sample, api.Fault) {
	if len(l) > api.MaxSamples {
		return nil, api.ErrLarge
	}
	var all []api.Sample
	for i, f := range l {
		if fault := checkFragment(f); fault != api.OK {
			return nil, fault
		}
		if i > 0 && f.Number != l[i-1].Number+1 {
			return nil, api.ErrOrder
		}
		if len(all) <= api.MaxSamples { // further ones do not change that there are too many
			all = append(all, f.Samples...)
		}
	}
	if fault := CheckSamples(all); fault != api.OK {
		return nil, fault
	}
	return all, api.OK
}
