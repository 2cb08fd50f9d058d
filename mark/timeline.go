package mark

import (
	"headend/api"
	"headend/check"
)

// CheckParts validates a timeline.
func CheckParts(l []api.Part) api.Fault {
	if len(l) > api.MaxPieces {
		return api.ErrLarge
	}
	all, end := 0, 0 // ticks of the timeline, and where the programme is
	fault := check.Each(l, func(_ int, p api.Part) api.Fault {
		fault := check.First(
			check.If(p.Ad != "" && !check.IsName(p.Ad), api.ErrName),
			check.If(!isLength(p.Length) || !isTick(p.From) || p.From > api.MaxTime-p.Length, api.ErrRange),
			check.If(p.Ad != "" && p.From != 0, api.ErrForm),
			check.If(p.Ad == "" && p.From < end, api.ErrOrder),
		)
		all += p.Length
		if p.Ad == "" {
			end = p.From + p.Length
		}
		return fault
	})
	return check.First(
		fault,
		check.If(all > api.MaxTime, api.ErrRange),
	)
}

// Inserted returns the timeline of a programme with advertisements put in at times.
func Inserted(programme int, at []int, ads [][]api.Ad) ([]api.Part, api.Fault) {
	fault := check.First(
		checkAmounts(programme, len(at), len(ads)),
		check.If(len(at) > api.MaxBreaks, api.ErrLarge),
	)
	if fault != api.OK {
		return nil, fault
	}
	var gaps []api.Span
	fault = check.Each(at, func(i, time int) api.Fault {
		gaps = append(gaps, api.Span{From: time, To: time})
		return check.First(
			check.If(!check.Within(time, 0, programme), api.ErrRange),
			check.If(i > 0 && time <= at[i-1], api.ErrOrder),
			checkPieces(ads[i]),
		)
	})
	if fault != api.OK {
		return nil, fault
	}
	return stitched(programme, gaps, ads)
}

// Replaced returns the timeline of a programme in which the ticks of breaks are replaced by advertisements.
func Replaced(programme int, l []api.Break, ads [][]api.Ad) ([]api.Part, api.Fault) {
	fault := check.First(
		checkAmounts(programme, len(l), len(ads)),
		CheckBreaks(l),
	)
	if fault != api.OK {
		return nil, fault
	}
	var gaps []api.Span
	fault = check.Each(l, func(i int, b api.Break) api.Fault {
		gaps = append(gaps, api.Span{From: b.Begin, To: endOf(b, programme)})
		return check.First(
			check.If(b.Begin > programme, api.ErrRange),
			checkPieces(ads[i]),
		)
	})
	if fault != api.OK {
		return nil, fault
	}
	return stitched(programme, gaps, ads)
}

func checkAmounts(programme, places, lists int) api.Fault {
	return check.First(
		check.If(!isTick(programme), api.ErrRange),
		check.If(places != lists, api.ErrForm),
	)
}

// checkPieces validates what a timeline has of advertisements.
func checkPieces(ads []api.Ad) api.Fault {
	return check.Each(ads, func(_ int, ad api.Ad) api.Fault {
		return check.First(
			check.If(!check.IsName(ad.Name), api.ErrName),
			check.If(!isLength(ad.Length), api.ErrRange),
		)
	})
}

// stitched returns the timeline of a programme that gives way to advertisements in gaps, if it is one.
func stitched(programme int, gaps []api.Span, ads [][]api.Ad) ([]api.Part, api.Fault) {
	var l []api.Part
	from := 0 // where the programme goes on
	play := func(to int) {
		if from < to {
			l = append(l, api.Part{From: from, Length: to - from})
		}
	}
	for i, gap := range gaps {
		if len(ads[i]) == 0 { // the programme goes on at once
			continue
		}
		play(gap.From)
		left := gap.To - gap.From
		for _, ad := range ads[i] {
			l = append(l, api.Part{Ad: ad.Name, Length: ad.Length})
			left = max(left-ad.Length, 0)
		}
		from = gap.To - left
	}
	play(programme)
	if fault := CheckParts(l); fault != api.OK {
		return nil, fault
	}
	return l, api.OK
}
