package mark_test

import (
	"fmt"
	"math/rand"
	"slices"
	"testing"

	"headend/api"
	"headend/mark"
)

func TestCheckParts(t *testing.T) {
	third := api.MaxTime / 3
	for _, l := range [][]api.Part{
		nil,
		{film(0, 1)},
		{spot("a", 1)},
		{spot(longName, api.MaxTime)},
		{film(0, api.MaxTime)},
		{film(api.MaxTime-1, 1)},
		{film(0, 5), film(5, 5)}, // continued
		{film(3, 5), spot("a", 9), spot("a", 9), film(8, 1), film(20, 1)},
		{spot("a", third), film(0, third), spot("b", third), film(third, 1)},
		slices.Repeat([]api.Part{spot("a", 1)}, api.MaxPieces),
	} {
		isFault(t, "CheckParts "+short(l), mark.CheckParts(l), api.OK)
	}
	for _, c := range []struct {
		l    []api.Part
		want api.Fault
	}{
		{slices.Repeat([]api.Part{spot("a", 1)}, api.MaxPieces+1), api.ErrLarge},
		{make([]api.Part, api.MaxPieces+1), api.ErrLarge},
		{[]api.Part{film(0, 0)}, api.ErrRange},
		{[]api.Part{film(0, -1)}, api.ErrRange},
		{[]api.Part{film(0, api.MaxTime+1)}, api.ErrRange},
		{[]api.Part{spot("a", 0)}, api.ErrRange},
		{[]api.Part{spot("a", api.MaxTime+1)}, api.ErrRange},
		{[]api.Part{film(-1, 1)}, api.ErrRange},
		{[]api.Part{film(api.MaxTime, 1)}, api.ErrRange},
		{[]api.Part{film(api.MaxTime+1, 1)}, api.ErrRange},
		{[]api.Part{film(1, api.MaxTime)}, api.ErrRange},
		{[]api.Part{{Ad: "a", From: -1, Length: 1}}, api.ErrRange},
		{[]api.Part{{Ad: "a", From: api.MaxTime, Length: 1}}, api.ErrRange},
		{[]api.Part{{Ad: "a", From: 1, Length: 1}}, api.ErrForm},
		{[]api.Part{film(0, 5), film(4, 5)}, api.ErrOrder},
		{[]api.Part{film(5, 5), film(0, 5)}, api.ErrOrder},
		{[]api.Part{film(5, 5), spot("a", 1), spot("b", 1), film(9, 5)}, api.ErrOrder},
		{[]api.Part{film(5, 5), film(10, 1), film(10, 5)}, api.ErrOrder},
		{[]api.Part{spot("a", api.MaxTime), film(0, 1)}, api.ErrRange},
		{[]api.Part{spot("a", third), film(0, third), spot("b", third), film(third, 2)}, api.ErrRange},
		{slices.Repeat([]api.Part{spot("a", api.MaxTime)}, api.MaxPieces), api.ErrRange},
	} {
		isFault(t, "CheckParts "+short(c.l), mark.CheckParts(c.l), c.want)
	}
	for _, name := range noNames[1:] {
		isFault(t, fmt.Sprintf("CheckParts with %q", name), mark.CheckParts([]api.Part{spot(name, 1)}), api.ErrName)
	}
	inOrder(t, "CheckParts", func() []api.Part { return []api.Part{film(0, 5), spot("a", 7), film(5, 5), spot("b", 7)} }, mark.CheckParts, []wrong[[]api.Part]{
		{"the second Ad", api.ErrName, func(l *[]api.Part) { (*l)[1].Ad = "-" }},
		{"the second Length", api.ErrRange, func(l *[]api.Part) { (*l)[1].Length = 0 }},
		{"the second From", api.ErrForm, func(l *[]api.Part) { (*l)[1].From = 1 }},
		{"the third From", api.ErrOrder, func(l *[]api.Part) { (*l)[2].From = 4 }},
		{"the fourth Ad", api.ErrName, func(l *[]api.Part) { (*l)[3].Ad = "-" }},
		{"all Lengths", api.ErrRange, func(l *[]api.Part) { (*l)[3].Length = api.MaxTime }},
	})
	inOrder(t, "CheckParts", func() []api.Part { return []api.Part{film(7, 5), film(12, 7)} }, mark.CheckParts, []wrong[[]api.Part]{
		{"the second From", api.ErrRange, func(l *[]api.Part) { (*l)[1].From = -1 }},
		{"the first one ends later", api.ErrOrder, func(l *[]api.Part) { (*l)[0].Length = 6 }},
	})
}

func TestInserted(t *testing.T) {
	a, b := ad("a", 5), ad("b", 9)
	for _, c := range []struct {
		what      string
		programme int
		at        []int
		ads       [][]api.Ad
		want      []api.Part
	}{
		{"nothing", 100, nil, nil, []api.Part{film(0, 100)}},
		{"nothing into nothing", 0, nil, nil, nil},
		{"one into nothing", 0, []int{0}, [][]api.Ad{{a}}, []api.Part{spot("a", 5)}},
		{"one before", 100, []int{0}, [][]api.Ad{{a}}, []api.Part{spot("a", 5), film(0, 100)}},
		{"one within", 100, []int{40}, [][]api.Ad{{a}}, []api.Part{film(0, 40), spot("a", 5), film(40, 60)}},
		{"one behind", 100, []int{100}, [][]api.Ad{{a}}, []api.Part{film(0, 100), spot("a", 5)}},
		{"several at one tick", 100, []int{40}, [][]api.Ad{{b, a, b}}, []api.Part{film(0, 40), spot("b", 9), spot("a", 5), spot("b", 9), film(40, 60)}},
		{"some at several ticks", 100, []int{0, 1, 99, 100}, [][]api.Ad{{a}, {b}, {a, a}, {b}}, []api.Part{
			spot("a", 5), film(0, 1), spot("b", 9), film(1, 98), spot("a", 5), spot("a", 5), film(99, 1), spot("b", 9)}},
		{"none at a tick", 100, []int{40}, [][]api.Ad{{}}, []api.Part{film(0, 100)}},
		{"none at some ticks", 100, []int{0, 20, 40, 60, 100}, [][]api.Ad{nil, nil, {a}, nil, nil}, []api.Part{film(0, 40), spot("a", 5), film(40, 60)}},
		{"one that fills all time", 1, []int{1}, [][]api.Ad{{ad("a", api.MaxTime-1)}}, []api.Part{film(0, 1), spot("a", api.MaxTime-1)}},
		{"what a break needs, but a timeline does not", 7, []int{7}, [][]api.Ad{{{Name: "a", Length: 1, Value: -1, Rival: "-"}, {Name: "a", Length: 1, Value: api.MaxValue + 1, Rival: "-"}}}, []api.Part{film(0, 7), spot("a", 1), spot("a", 1)}},
	} {
		l, f := mark.Inserted(c.programme, c.at, c.ads)
		is(t, "Inserted "+c.what, l, f, c.want)
	}
}

func TestReplaced(t *testing.T) {
	a, b := ad("a", 5), ad("b", 9)
	for _, c := range []struct {
		what      string
		programme int
		l         []api.Break
		ads       [][]api.Ad
		want      []api.Part
	}{
		{"the example", 100, broken(40, 70), [][]api.Ad{{ad("a", 20)}}, []api.Part{film(0, 40), spot("a", 20), film(60, 40)}},
		{"no break", 100, nil, nil, []api.Part{film(0, 100)}},
		{"no break of nothing", 0, nil, nil, nil},
		{"fewer ticks", 100, broken(40, 70), [][]api.Ad{{a, b}}, []api.Part{film(0, 40), spot("a", 5), spot("b", 9), film(54, 46)}},
		{"as many ticks", 100, broken(40, 54), [][]api.Ad{{a, b}}, []api.Part{film(0, 40), spot("a", 5), spot("b", 9), film(54, 46)}},
		{"more ticks", 100, broken(40, 53), [][]api.Ad{{a, b}}, []api.Part{film(0, 40), spot("a", 5), spot("b", 9), film(53, 47)}},
		{"more ticks before the last one", 100, broken(40, 41), [][]api.Ad{{a, b}}, []api.Part{film(0, 40), spot("a", 5), spot("b", 9), film(41, 59)}},
		{"nothing in a break", 100, broken(40, 53), [][]api.Ad{nil}, []api.Part{film(0, 100)}},
		{"nothing in the first break", 100, broken(40, 53, 60, 70), [][]api.Ad{nil, {a}}, []api.Part{film(0, 60), spot("a", 5), film(65, 35)}},
		{"nothing in the second break", 100, broken(40, 53, 60, 70), [][]api.Ad{{a}, nil}, []api.Part{film(0, 40), spot("a", 5), film(45, 55)}},
		{"breaks that touch", 100, broken(40, 50, 50, 60), [][]api.Ad{{b}, {b}}, []api.Part{film(0, 40), spot("b", 9), film(49, 1), spot("b", 9), film(59, 41)}},
		{"breaks that touch, as many ticks", 100, broken(41, 50, 50, 59), [][]api.Ad{{b}, {b}}, []api.Part{film(0, 41), spot("b", 9), spot("b", 9), film(59, 41)}},
		{"a break at the beginning", 100, broken(0, 9), [][]api.Ad{{b}}, []api.Part{spot("b", 9), film(9, 91)}},
		{"a break at the end", 100, broken(91, 100), [][]api.Ad{{b}}, []api.Part{film(0, 91), spot("b", 9)}},
		{"a break at the end, fewer ticks", 100, broken(90, 100), [][]api.Ad{{b}}, []api.Part{film(0, 90), spot("b", 9), film(99, 1)}},
		{"a break that is all", 100, broken(0, 100), [][]api.Ad{{b}}, []api.Part{spot("b", 9), film(9, 91)}},
		{"an open break", 100, broken(40, -1), [][]api.Ad{{b}}, []api.Part{film(0, 40), spot("b", 9), film(49, 51)}},
		{"an open break, more ticks", 100, broken(95, -1), [][]api.Ad{{b}}, []api.Part{film(0, 95), spot("b", 9)}},
		{"an open break behind the programme", 100, broken(100, -1), [][]api.Ad{{b}}, []api.Part{film(0, 100), spot("b", 9)}},
		{"a break behind the programme", 100, broken(100, 150), [][]api.Ad{{b}}, []api.Part{film(0, 100), spot("b", 9)}},
		{"a break that ends behind the programme", 100, broken(95, 200), [][]api.Ad{{a}}, []api.Part{film(0, 95), spot("a", 5)}},
		{"a break that ends behind the programme, fewer ticks", 100, broken(90, 200), [][]api.Ad{{b}}, []api.Part{film(0, 90), spot("b", 9), film(99, 1)}},
		{"a break of a programme of 0 ticks", 0, broken(0, -1), [][]api.Ad{{b}}, []api.Part{spot("b", 9)}},
		{"the greatest numbers", api.MaxTime, broken(0, api.MaxTime), [][]api.Ad{{ad("a", api.MaxTime)}}, []api.Part{spot("a", api.MaxTime)}},
	} {
		l, f := mark.Replaced(c.programme, c.l, c.ads)
		is(t, "Replaced with "+c.what, l, f, c.want)
	}
}

// joined returns what a list of ticks of a timeline is, part by part.
func joined(ticks []tickOf) []api.Part {
	var l []api.Part
	for i, tick := range ticks {
		last := len(l) - 1
		switch {
		case i > 0 && tick.part == ticks[i-1].part && tick.ad != "":
			l[last].Length++
		case i > 0 && tick.ad == "" && ticks[i-1].ad == "" && tick.from == ticks[i-1].from+1:
			l[last].Length++
		default:
			l = append(l, api.Part{Ad: tick.ad, From: tick.from, Length: 1})
		}
	}
	for i := range l {
		if l[i].Ad != "" {
			l[i].From = 0
		}
	}
	return l
}

// played returns the ticks of advertisements; part numbers all that were played so far.
func played(ads []api.Ad, part *int) []tickOf {
	var ticks []tickOf
	for _, ad := range ads {
		*part++
		for n := range ad.Length {
			ticks = append(ticks, tickOf{ad.Name, *part, n})
		}
	}
	return ticks
}

// insertedOf returns what Inserted has to return, tick by tick.
func insertedOf(programme int, at []int, ads [][]api.Ad) []api.Part {
	var ticks []tickOf
	part := 0
	for n := range programme + 1 {
		if i := slices.Index(at, n); i >= 0 {
			ticks = append(ticks, played(ads[i], &part)...)
		}
		if n < programme {
			ticks = append(ticks, tickOf{from: n})
		}
	}
	return joined(ticks)
}

// replacedOf returns what Replaced has to return, tick by tick.
func replacedOf(programme int, l []api.Break, ads [][]api.Ad) []api.Part {
	var ticks []tickOf
	part := 0
	for n := 0; n <= programme; {
		i := slices.IndexFunc(l, func(b api.Break) bool { return b.Begin == n })
		if i >= 0 {
			end := l[i].End
			if end == -1 || end > programme {
				end = programme
			}
			spots := played(ads[i], &part)
			ticks = append(ticks, spots...)
			left := max(end-n-len(spots), 0)
			for from := end - left; from < end; from++ {
				ticks = append(ticks, tickOf{from: from})
			}
			if n < end {
				n = end
				continue
			}
		}
		if n < programme {
			ticks = append(ticks, tickOf{from: n})
		}
		n++
	}
	return joined(ticks)
}

func drawAds(r *rand.Rand) []api.Ad {
	var l []api.Ad
	for range r.Intn(4) {
		l = append(l, ad([]string{"a", "b", "c"}[r.Intn(3)], 1+r.Intn(5)))
	}
	return l
}

// drawBreaks returns breaks that begin within a programme.
func drawBreaks(r *rand.Rand, programme int) []api.Break {
	var l []api.Break
	for at := r.Intn(5); at <= programme; at += r.Intn(3) * r.Intn(5) {
		b := breakOf(len(l), at, at+1+r.Intn(7))
		at = b.End
		if r.Intn(7) == 0 {
			b.End = -1
			return append(l, b)
		}
		l = append(l, b)
	}
	return l
}

func TestManyTimelines(t *testing.T) {
	r := rand.New(rand.NewSource(6))
	for range 5000 {
		programme := r.Intn(25)
		var at []int
		var ads [][]api.Ad
		for n := range programme + 1 {
			if r.Intn(5) == 0 {
				at, ads = append(at, n), append(ads, drawAds(r))
			}
		}
		l, f := mark.Inserted(programme, at, ads)
		is(t, fmt.Sprint("Inserted ", programme, at, ads), l, f, insertedOf(programme, at, ads))
		isFault(t, "CheckParts of Inserted", mark.CheckParts(l), api.OK)
		breaks := drawBreaks(r, programme)
		ads = nil
		for range breaks {
			ads = append(ads, drawAds(r))
		}
		l, f = mark.Replaced(programme, breaks, ads)
		is(t, fmt.Sprint("Replaced ", programme, breaks, ads), l, f, replacedOf(programme, breaks, ads))
		isFault(t, "CheckParts of Replaced", mark.CheckParts(l), api.OK)
	}
}

// putting is what Inserted and Replaced are given.
type putting struct {
	programme int
	at        []int
	breaks    []api.Break
	ads       [][]api.Ad
}

func (p putting) inserted(t *testing.T) api.Fault {
	l, f := mark.Inserted(p.programme, p.at, p.ads)
	isWhole(t, "Inserted", l, f)
	return f
}

func (p putting) replaced(t *testing.T) api.Fault {
	l, f := mark.Replaced(p.programme, p.breaks, p.ads)
	isWhole(t, "Replaced", l, f)
	return f
}

// goodPutting is three times, or breaks, with an advertisement for each one.
func goodPutting() putting {
	return putting{100, []int{10, 20, 30}, broken(10, 15, 20, 25, 30, 35), [][]api.Ad{{ad("a", 5)}, {ad("b", 5), ad("c", 5)}, {ad("d", 5)}}}
}

// inSecond is wrong things of the second list of advertisements, and what comes behind them.
var inSecond = []wrong[putting]{
	{"the Name of an ad", api.ErrName, func(p *putting) { p.ads[1][0].Name = "-" }},
	{"the Length of an ad", api.ErrRange, func(p *putting) { p.ads[1][0].Length = 0 }},
	{"the Name of the next ad", api.ErrName, func(p *putting) { p.ads[1][1].Name = "" }},
	{"the Length of the next ad", api.ErrRange, func(p *putting) { p.ads[1][1].Length = api.MaxTime + 1 }},
}

func TestInsertedFaults(t *testing.T) {
	call := func(p putting) api.Fault { return p.inserted(t) }
	inOrder(t, "Inserted", goodPutting, call, slices.Concat([]wrong[putting]{
		{"the programme", api.ErrRange, func(p *putting) { p.programme = -1 }},
		{"a list of ads is missing", api.ErrForm, func(p *putting) { p.ads = p.ads[:2] }},
		{"a list of ads is too many", api.ErrForm, func(p *putting) { p.ads = append(p.ads, nil) }},
		{"the second time", api.ErrRange, func(p *putting) { p.at[1] = -1 }},
		{"the second time comes before the first one", api.ErrOrder, func(p *putting) { p.at[0] = p.at[1] }},
	}, inSecond, []wrong[putting]{
		{"the third time", api.ErrRange, func(p *putting) { p.at[2] = 101 }},
		{"too many parts", api.ErrLarge, func(p *putting) { p.ads[2] = slices.Repeat([]api.Ad{ad("x", 1)}, api.MaxPieces-5) }},
		{"too many ticks", api.ErrRange, func(p *putting) { p.ads[0][0].Length = api.MaxTime }},
	}))
	many := func(n int) putting {
		p := putting{programme: n}
		for i := range n {
			p.at, p.ads = append(p.at, i), append(p.ads, nil)
		}
		return p
	}
	isFault(t, "Inserted at as many times as can be", call(many(api.MaxBreaks)), api.OK)
	isFault(t, "Inserted at too many times", call(many(api.MaxBreaks+1)), api.ErrLarge)
	wrongMany := many(api.MaxBreaks + 1)
	wrongMany.at[0] = -1
	isFault(t, "Inserted at too many times, one is wrong", call(wrongMany), api.ErrLarge)
	wrongMany.ads = nil
	isFault(t, "Inserted at too many times, without ads", call(wrongMany), api.ErrForm)
	isFault(t, "Inserted too late", call(putting{programme: 5, at: []int{6}, ads: [][]api.Ad{nil}}), api.ErrRange)
	isFault(t, "Inserted into too much", call(putting{programme: api.MaxTime + 1}), api.ErrRange)
	isFault(t, "Inserted in no order", call(putting{programme: 5, at: []int{3, 2}, ads: make([][]api.Ad, 2)}), api.ErrOrder)
}

func TestReplacedFaults(t *testing.T) {
	call := func(p putting) api.Fault { return p.replaced(t) }
	inOrder(t, "Replaced", goodPutting, call, slices.Concat([]wrong[putting]{
		{"the programme", api.ErrRange, func(p *putting) { p.programme = api.MaxTime + 1 }},
		{"a list of ads is missing", api.ErrForm, func(p *putting) { p.ads = p.ads[:2] }},
		{"a list of ads is too many", api.ErrForm, func(p *putting) { p.ads = append(p.ads, nil) }},
		{"the second break", api.ErrOrder, func(p *putting) { p.breaks[1].End = 7 }},
		{"the third break", api.ErrTwice, func(p *putting) { p.breaks[2].Event = 0 }},
		{"the first ad", api.ErrName, func(p *putting) { p.ads[0][0].Name = "A" }},
		{"the second Begin is behind the programme", api.ErrRange, func(p *putting) { p.programme = 19 }},
	}, inSecond, []wrong[putting]{
		{"the third Begin is behind the programme", api.ErrRange, func(p *putting) { p.programme = 29 }},
		{"too many parts", api.ErrLarge, func(p *putting) { p.ads[2] = slices.Repeat([]api.Ad{ad("x", 1)}, api.MaxPieces-5) }},
		{"too many ticks", api.ErrRange, func(p *putting) { p.ads[0][0].Length = api.MaxTime }},
	}))
	var pairs []int
	for i := range api.MaxBreaks + 1 {
		pairs = append(pairs, i, i+1)
	}
	isFault(t, "Replaced with as many breaks as can be", call(putting{programme: 500, breaks: broken(pairs[2:]...), ads: make([][]api.Ad, api.MaxBreaks)}), api.OK)
	isFault(t, "Replaced with too many breaks", call(putting{programme: 500, breaks: broken(pairs...), ads: make([][]api.Ad, api.MaxBreaks+1)}), api.ErrLarge)
	isFault(t, "Replaced with too many breaks, without ads", call(putting{programme: 500, breaks: broken(pairs...)}), api.ErrForm)
	isFault(t, "Replaced of nothing", call(putting{programme: -1}), api.ErrRange)
}

// A timeline has as many parts, and ticks, as can be, or one more; also when its ads together have more ticks than a number can say.
func TestGreatestTimelines(t *testing.T) {
	for n, want := range map[int]api.Fault{api.MaxPieces - 2: api.OK, api.MaxPieces - 1: api.ErrLarge} {
		p := putting{9, []int{4}, broken(4, 9), [][]api.Ad{slices.Repeat([]api.Ad{ad("x", 1)}, n)}}
		isFault(t, fmt.Sprint("Inserted with ads ", n), p.inserted(t), want)
		p.ads[0] = append(p.ads[0], ad("y", 1))[1:]
		p.breaks[0].End = 8
		isFault(t, fmt.Sprint("Replaced with ads ", n), p.replaced(t), want)
	}
	for length, want := range map[int]api.Fault{api.MaxTime - 9: api.OK, api.MaxTime - 8: api.ErrRange} {
		p := putting{9, []int{9}, broken(9, -1), [][]api.Ad{{ad("x", length)}}}
		isFault(t, fmt.Sprint("Inserted with ticks ", length), p.inserted(t), want)
		isFault(t, fmt.Sprint("Replaced with ticks ", length), p.replaced(t), want)
	}
	p := putting{9, []int{4}, broken(4, 6), [][]api.Ad{slices.Repeat([]api.Ad{ad("x", api.MaxTime)}, 20000)}}
	isFault(t, "Inserted with far too much", p.inserted(t), api.ErrLarge)
	isFault(t, "Replaced with far too much", p.replaced(t), api.ErrLarge)
}
