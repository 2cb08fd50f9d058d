package key

import (
	"cmp"
	"slices"
	"strings"

	"headend/api"
	"headend/check"
)

const never = -1 // the First of somebody who has not played something before

// CheckLicences validates licences.
func CheckLicences(l []api.Licence) api.Fault {
	if len(l) > api.MaxLicences {
		return api.ErrLarge
	}
	return check.Each(l, func(i int, licence api.Licence) api.Fault {
		return check.First(
			check.If(!check.IsName(licence.User), api.ErrName),
			check.If(!check.IsName(licence.Id), api.ErrName),
			check.If(i > 0 && !isBefore(l[i-1], licence), api.ErrOrder),
			checkPeriods(licence.Periods),
			check.If(!isMoment(licence.From) || !isMoment(licence.To), api.ErrRange),
			check.If(licence.To <= licence.From, api.ErrOrder),
			check.If(!isMoment(licence.Long), api.ErrRange),
			checkOutputs(licence.Outputs),
		)
	})
}

// isBefore says whether a licence has a lesser User, or, of the same one, a lesser Id.
func isBefore(a, b api.Licence) bool {
	return cmp.Or(strings.Compare(a.User, b.User), strings.Compare(a.Id, b.Id)) < 0
}

func checkPeriods(s api.Span) api.Fault {
	return check.First(
		check.If(!isPeriod(s.From), api.ErrRange),
		check.If(s.To <= s.From, api.ErrOrder),
		check.If(s.To > api.MaxPeriods+1, api.ErrRange),
	)
}

func isHeight(n int) bool { return check.Within(n, 1, api.MaxHeight) }

func checkOutputs(l []api.Output) api.Fault {
	if len(l) == 0 {
		return api.ErrNone
	}
	if len(l) > api.MaxOutputs {
		return api.ErrLarge
	}
	return check.Each(l, func(i int, o api.Output) api.Fault {
		return check.First(
			check.If(!check.IsName(o.Kind), api.ErrName),
			check.If(i > 0 && o.Kind <= l[i-1].Kind, api.ErrOrder),
			check.If(!isHeight(o.Height), api.ErrRange),
		)
	})
}

// checkPlay validates licences, and who wants to play something.
func checkPlay(l []api.Licence, user string, period int, u api.Play) api.Fault {
	return check.First(
		CheckLicences(l),
		check.If(!check.IsName(user), api.ErrName),
		check.If(!isPeriod(period), api.ErrRange),
		check.If(!isMoment(u.Time), api.ErrRange),
		check.If(!check.Within(u.First, never, u.Time), api.ErrRange),
		check.If(!check.IsName(u.Output), api.ErrName),
		check.If(!isHeight(u.Height), api.ErrRange),
	)
}

// isFor says whether a licence permits, at some times, that a user plays a period on an output.
func isFor(l api.Licence, user string, period int, u api.Play) bool {
	shows := func(o api.Output) bool { return o.Kind == u.Output && o.Height >= u.Height }
	hasPeriod := l.Periods.From <= period && period < l.Periods.To
	return l.User == user && hasPeriod && slices.ContainsFunc(l.Outputs, shows)
}

// permits says whether a licence, which is for a play, permits it at a time, if the first use was then, or never.
func permits(l api.Licence, time, first int) bool { return l.From <= time && time < endOf(l, first) }

// endOf returns from when on a licence permits nothing.
func endOf(l api.Licence, first int) int {
	if l.Long == 0 || first == never {
		return l.To
	}
	return min(l.To, first+l.Long)
}

// May returns the Id of the first licence that permits a play, if one does.
func May(l []api.Licence, user string, period int, u api.Play) (string, bool, api.Fault) {
	if fault := checkPlay(l, user, period, u); fault != api.OK {
		return "", false, fault
	}
	for _, licence := range l {
		if isFor(licence, user, period, u) && permits(licence, u.Time, u.First) {
			return licence.Id, true, api.OK
		}
	}
	return "", false, api.OK
}

// Until returns the first time, from that of a play on, at which no licence permits it.
func Until(l []api.Licence, user string, period int, u api.Play) (int, api.Fault) {
	if fault := checkPlay(l, user, period, u); fault != api.OK {
		return 0, fault
	}
	time, first := u.Time, u.First
	if first == never {
		first = time
	}
	goesOn := func(licence api.Licence) bool {
		return isFor(licence, user, period, u) && permits(licence, time, first)
	}
	for {
		next := slices.IndexFunc(l, goesOn)
		if next < 0 {
			return time, api.OK
		}
		time = endOf(l[next], first)
	}
}
