package key

import (
	"maps"

	"headend/api"
	"headend/check"
)

// CheckSeats validates seats.
func CheckSeats(l []api.Seats) api.Fault {
	if len(l) > api.MaxUsers {
		return api.ErrLarge
	}
	return check.Each(l, func(i int, s api.Seats) api.Fault {
		return check.First(
			check.If(!check.IsName(s.User), api.ErrName),
			check.If(i > 0 && s.User <= l[i-1].User, api.ErrOrder),
			check.If(!check.Within(s.Most, 0, api.MaxAtOnce), api.ErrRange),
			check.If(!check.Within(s.Long, 1, api.MaxTime), api.ErrRange),
		)
	})
}

func checkAsks(l []api.Ask) api.Fault {
	if len(l) > api.MaxAsks {
		return api.ErrLarge
	}
	return check.Each(l, func(i int, a api.Ask) api.Fault {
		return check.First(
			check.If(!isMoment(a.Time), api.ErrRange),
			check.If(!check.IsName(a.User), api.ErrName),
			check.If(!check.IsName(a.Session), api.ErrName),
			check.If(!check.Within(a.Kind, api.AskPlay, api.AskStop), api.ErrKind),
			check.If(i > 0 && a.Time < l[i-1].Time, api.ErrOrder),
		)
	})
}

// guest is a user with seats.
type guest struct {
	seats api.Seats
	until map[string]int // when the leases end that last, by Session
}

// forget takes away the leases that do not last any more.
func (g guest) forget(time int) {
	maps.DeleteFunc(g.until, func(_ string, until int) bool { return until <= time })
}

// answer answers an ask of the guest.
func (g guest) answer(a api.Ask) api.Lease {
	g.forget(a.Time)
	_, lasts := g.until[a.Session]
	switch {
	case !lasts && a.Kind != api.AskPlay:
		return api.Lease{Answer: api.ErrState}
	case !lasts && len(g.until) >= g.seats.Most:
		return api.Lease{Answer: api.ErrFull}
	case a.Kind == api.AskStop:
		delete(g.until, a.Session)
		return api.Lease{Until: a.Time}
	}
	until := a.Time + g.seats.Long
	g.until[a.Session] = until
	return api.Lease{Until: until}
}

// house is all guests, by User.
type house map[string]guest

// houseOf returns a house in which no lease lasts yet.
func houseOf(l []api.Seats) house {
	h := house{}
	for _, s := range l {
		h[s.User] = guest{s, map[string]int{}}
	}
	return h
}

func (h house) answer(a api.Ask) api.Lease {
	g, isGuest := h[a.User]
	if !isGuest {
		return api.Lease{Answer: api.ErrDenied}
	}
	return g.answer(a)
}

// Lease answers asks.
func Lease(l []api.Seats, asks []api.Ask) ([]api.Lease, api.Fault) {
	fault := check.First(
		CheckSeats(l),
		checkAsks(asks),
	)
	if fault != api.OK {
		return nil, fault
	}
	h := houseOf(l)
	var answers []api.Lease
	for _, a := range asks {
		answers = append(answers, h.answer(a))
	}
	return answers, api.OK
}

// Watching returns how many leases of a user last at a time.
func Watching(l []api.Seats, asks []api.Ask, user string, time int) (int, api.Fault) {
	fault := check.First(
		CheckSeats(l),
		checkAsks(asks),
		check.If(!check.IsName(user), api.ErrName),
		check.If(!isMoment(time), api.ErrRange),
	)
	if fault != api.OK {
		return 0, fault
	}
	h := houseOf(l)
	for _, a := range asks {
		if a.Time <= time {
			h.answer(a)
		}
	}
	g := h[user] // without seats it has no leases
	g.forget(time)
	return len(g.until), api.OK
}
