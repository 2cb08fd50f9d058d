package key

import (
	"headend/api"
	"headend/check"
)

func isCoded(n int) bool { return check.Within(n, 0, api.MaxCoded) }

// checkEachSub validates the elements of a list of subs.
func checkEachSub(l []api.Sub) api.Fault {
	if len(l) > api.MaxSubs {
		return api.ErrLarge
	}
	return check.Each(l, func(_ int, s api.Sub) api.Fault {
		return check.First(
			check.If(!isCoded(s.Clear), api.ErrRange),
			check.If(!isCoded(s.Protected), api.ErrRange),
			check.If(s == api.Sub{}, api.ErrForm),
		)
	})
}

// checkSubs validates a list of subs for so many bytes.
func checkSubs(l []api.Sub, size int) api.Fault {
	if fault := checkEachSub(l); fault != api.OK {
		return fault
	}
	sum := 0
	for _, s := range l {
		sum += s.Clear + s.Protected
	}
	return check.If(len(l) > 0 && sum != size, api.ErrForm)
}

// partsOf returns the bytes that each one of subs protects.
func partsOf(l []api.Sub, size int) []api.Span {
	if len(l) == 0 {
		return []api.Span{{From: 0, To: size}}
	}
	var parts []api.Span
	at := 0
	for _, s := range l {
		from := at + s.Clear
		at = from + s.Protected
		parts = append(parts, api.Span{From: from, To: at})
	}
	return parts
}

// Units divides a picture of units of which at least the first bytes stay clear.
func Units(sizes []int, keep int) ([]api.Sub, api.Fault) {
	if fault := checkUnits(sizes, keep); fault != api.OK {
		return nil, fault
	}
	var l []api.Sub
	for _, size := range sizes {
		left := max(size-keep, 0)
		protected := left - left%blockBytes
		l = append(l, api.Sub{Clear: size - protected, Protected: protected})
	}
	return l, api.OK
}

func checkUnits(sizes []int, keep int) api.Fault {
	if len(sizes) > api.MaxSubs {
		return api.ErrLarge
	}
	sum := 0
	fault := check.Each(sizes, func(_, size int) api.Fault {
		sum += size
		return check.If(!check.Within(size, 1, api.MaxCoded), api.ErrRange)
	})
	return check.First(
		fault,
		check.If(!isCoded(keep), api.ErrRange),
		check.If(!isCoded(sum), api.ErrLarge),
	)
}

// Fewer returns the shortest list with the same bytes in the same parts.
func Fewer(l []api.Sub) ([]api.Sub, api.Fault) {
	if fault := checkEachSub(l); fault != api.OK {
		return nil, fault
	}
	var fewer []api.Sub
	plain := 0 // clear bytes after the last part
	for i, s := range l {
		plain += s.Clear
		if s.Protected > 0 || i == len(l)-1 {
			fewer = append(fewer, api.Sub{Clear: plain, Protected: s.Protected})
			plain = 0
		}
	}
	return fewer, api.OK
}
