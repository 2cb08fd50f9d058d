package list_test

import (
	"fmt"
	"math/rand"
	"slices"
	"strings"
	"testing"

	"headend/api"
	"headend/list"
)

// master returns a list of renditions that has all that there is.
func master() api.Master {
	return api.Master{
		Sounds: []api.Sound{
			{Group: "aac", Name: "main", Language: "en", Default: true, Uri: "s1"},
			{Group: "aac", Name: "other", Language: "zh-hant", Uri: "s2"},
			{Group: "opus", Name: "main", Language: "en", Default: true, Uri: "s1"},
		},
		Streams: []api.Stream{
			{Name: "low", Uri: "l", Mean: 100, Peak: 200, Width: 640, Height: 360, Sound: "aac"},
			{Name: "high", Uri: "h", Mean: 300, Peak: 500, Width: 1280, Height: 720, Sound: "opus"},
			{Name: "sound", Uri: "s1", Mean: 50, Peak: 50},
		},
	}
}

// tall returns a list of n streams and n sounds.
func tall(n int) api.Master {
	var m api.Master
	for i := range n {
		m.Sounds = append(m.Sounds, api.Sound{Group: "g", Name: fmt.Sprint("s", i), Language: "en", Uri: "u"})
		m.Streams = append(m.Streams, api.Stream{Name: fmt.Sprint("v", i), Uri: "u", Mean: 1, Peak: 1, Sound: "g"})
	}
	return m
}

func TestCheckMasterGood(t *testing.T) {
	stream := func(change func(s *api.Stream)) api.Master {
		m := master()
		change(&m.Streams[1])
		return m
	}
	sound := func(change func(s *api.Sound)) api.Master {
		m := master()
		change(&m.Sounds[1])
		return m
	}
	for what, m := range map[string]api.Master{
		"all":                    master(),
		"none":                   {},
		"no sounds":              {Streams: []api.Stream{{Name: "a", Uri: "u", Mean: 1, Peak: 1}}},
		"no streams":             {Sounds: master().Sounds},
		"as many as there can":   tall(api.MaxStreams),
		"the least rates":        stream(func(s *api.Stream) { s.Mean, s.Peak = 1, 1 }),
		"the greatest rates":     stream(func(s *api.Stream) { s.Mean, s.Peak = maxBits, maxBits }),
		"the greatest Peak":      stream(func(s *api.Stream) { s.Mean, s.Peak = 1, maxBits }),
		"the least picture":      stream(func(s *api.Stream) { s.Width, s.Height = 1, 1 }),
		"the greatest picture":   stream(func(s *api.Stream) { s.Width, s.Height = api.MaxSide, api.MaxSide }),
		"no picture":             stream(func(s *api.Stream) { s.Width, s.Height = 0, 0 }),
		"no sound of a stream":   stream(func(s *api.Stream) { s.Sound = "" }),
		"a long Uri":             stream(func(s *api.Stream) { s.Uri = strings.Repeat("u", api.MaxUri) }),
		"a long Name":            stream(func(s *api.Stream) { s.Name = strings.Repeat("n", api.MaxName) }),
		"a short Language":       sound(func(s *api.Sound) { s.Language = "--" }),
		"a long Language":        sound(func(s *api.Sound) { s.Language = "a-z-a-z-" }),
		"no Default":             sound(func(s *api.Sound) { s.Default = false }),
		"a Default of no others": sound(func(s *api.Sound) { s.Default, s.Group = true, "other" }),
		"a Name of another":      sound(func(s *api.Sound) { s.Group, s.Name = "other", "main" }),
		"a long Uri of a sound":  sound(func(s *api.Sound) { s.Uri = strings.Repeat("u", api.MaxUri) }),
		"a Name like a stream's": sound(func(s *api.Sound) { s.Name = "low" }),
	} {
		isFault(t, "CheckMaster "+what, list.CheckMaster(m), api.OK)
	}
}

func masterWrongs() []wrong[api.Master] {
	var all []wrong[api.Master]
	sound := func(fault api.Fault, what string, change func(s *api.Sound)) {
		all = append(all, wrong[api.Master]{"a sound with " + what, fault, func(m *api.Master) { change(&m.Sounds[1]) }})
	}
	stream := func(fault api.Fault, what string, change func(s *api.Stream)) {
		all = append(all, wrong[api.Master]{"a stream with " + what, fault, func(m *api.Master) { change(&m.Streams[1]) }})
	}
	names := []string{"", "-", "A", "1", "a b", "a_", strings.Repeat("a", api.MaxName+1)}
	uris := []string{"", "#", "a b", "a\n", "\x7f", strings.Repeat("a", api.MaxUri+1)}
	for _, name := range names {
		sound(api.ErrName, fmt.Sprintf("Group %.5q", name), func(s *api.Sound) { s.Group = name })
		sound(api.ErrName, fmt.Sprintf("Name %.5q", name), func(s *api.Sound) { s.Name = name })
	}
	sound(api.ErrTwice, "both of an earlier one", func(s *api.Sound) { s.Group, s.Name = "aac", "main" })
	for _, language := range []string{"", "e", "EN", "e1", "e n", "abcdefghi", "äa"} {
		sound(api.ErrForm, "Language "+language, func(s *api.Sound) { s.Language = language })
	}
	sound(api.ErrClash, "a second Default", func(s *api.Sound) { s.Default, s.Group = true, "aac" })
	for _, uri := range uris {
		sound(api.ErrForm, fmt.Sprintf("Uri %.5q", uri), func(s *api.Sound) { s.Uri = uri })
	}
	for _, name := range names {
		stream(api.ErrName, fmt.Sprintf("Name %.5q", name), func(s *api.Stream) { s.Name = name })
	}
	stream(api.ErrTwice, "the Name of an earlier one", func(s *api.Stream) { s.Name = "low" })
	for _, uri := range uris {
		stream(api.ErrForm, fmt.Sprintf("Uri %.5q", uri), func(s *api.Stream) { s.Uri = uri })
	}
	for _, n := range numbers {
		if n < 1 || n > maxBits {
			stream(api.ErrRange, fmt.Sprint("Mean ", n), func(s *api.Stream) { s.Mean = n })
			stream(api.ErrRange, fmt.Sprint("both rates ", n), func(s *api.Stream) { s.Mean, s.Peak = n, n })
			stream(api.ErrRange, fmt.Sprint("Peak ", n), func(s *api.Stream) { s.Peak = n })
		}
		if n < 0 || n > api.MaxSide {
			stream(api.ErrRange, fmt.Sprint("Width ", n), func(s *api.Stream) { s.Width = n })
			stream(api.ErrRange, fmt.Sprint("Height ", n), func(s *api.Stream) { s.Height = n })
			stream(api.ErrRange, fmt.Sprint("both sides ", n), func(s *api.Stream) { s.Width, s.Height = n, n })
		}
	}
	stream(api.ErrRange, "a Peak below Mean", func(s *api.Stream) { s.Mean, s.Peak = 500, 499 })
	stream(api.ErrRange, "Width 0, not both", func(s *api.Stream) { s.Width = 0 })
	stream(api.ErrRange, "Height 0, not both", func(s *api.Stream) { s.Height = 0 })
	for _, name := range []string{"-", "other", "main", "AAC", "aac "} {
		stream(api.ErrName, "Sound "+name, func(s *api.Stream) { s.Sound = name })
	}
	return all
}

func TestCheckMaster(t *testing.T) {
	wrongs := masterWrongs()
	inOrder(t, "CheckMaster", master, list.CheckMaster, slices.DeleteFunc(slices.Clone(wrongs), func(w wrong[api.Master]) bool {
		return strings.Contains(w.what, "both") || strings.Contains(w.what, "second") // these change fields of others
	}))
	for _, w := range wrongs {
		m := master()
		w.change(&m)
		isFault(t, "CheckMaster "+w.what, list.CheckMaster(m), w.fault)
	}
	for what, c := range map[string]struct {
		change func(m *api.Master)
		want   api.Fault
	}{
		"too many streams":               {func(m *api.Master) { m.Streams = tall(api.MaxStreams + 1).Streams }, api.ErrLarge},
		"too many sounds":                {func(m *api.Master) { m.Sounds = tall(api.MaxStreams + 1).Sounds }, api.ErrLarge},
		"too many streams, and no names": {func(m *api.Master) { m.Sounds[0].Name, m.Streams = "", make([]api.Stream, api.MaxStreams+1) }, api.ErrLarge},
		"too many sounds without names":  {func(m *api.Master) { m.Sounds = make([]api.Sound, api.MaxStreams+1) }, api.ErrLarge},
		"ErrTwice before Language":       {func(m *api.Master) { m.Sounds[1] = m.Sounds[0]; m.Sounds[1].Language = "" }, api.ErrTwice},
		"ErrTwice before Default":        {func(m *api.Master) { m.Sounds[1] = m.Sounds[0] }, api.ErrTwice},
		"Language before Default":        {func(m *api.Master) { m.Sounds[1].Default, m.Sounds[1].Language = true, "" }, api.ErrForm},
		"Default before Uri":             {func(m *api.Master) { m.Sounds[1].Default, m.Sounds[1].Uri = true, "" }, api.ErrClash},
		"Group before ErrTwice":          {func(m *api.Master) { m.Sounds[0].Group, m.Sounds[1] = "A", m.Sounds[0]; m.Sounds[1].Group = "A" }, api.ErrName},
		"sounds before streams":          {func(m *api.Master) { m.Sounds[2].Uri, m.Streams[0].Name = "", "" }, api.ErrForm},
		"the first stream first":         {func(m *api.Master) { m.Streams[0].Sound, m.Streams[1].Uri = "x", "" }, api.ErrName},
		"the first sound first":          {func(m *api.Master) { m.Sounds[0].Uri, m.Sounds[1].Name = "", "" }, api.ErrForm},
		"the first one of two ErrTwice":  {func(m *api.Master) { m.Streams[2].Name, m.Streams[1].Mean = "low", 0 }, api.ErrRange},
		"a Name twice, not side by side": {func(m *api.Master) { m.Streams[2].Name = "low" }, api.ErrTwice},
		"both twice, not side by side":   {func(m *api.Master) { m.Sounds[2].Group = "aac" }, api.ErrTwice},
		"Default, not side by side":      {func(m *api.Master) { m.Sounds[2].Group, m.Sounds[2].Name = "aac", "x"; m.Streams[1].Sound = "" }, api.ErrClash},
		"no sounds":                      {func(m *api.Master) { m.Sounds = nil }, api.ErrName},
	} {
		m := master()
		c.change(&m)
		isFault(t, "CheckMaster "+what, list.CheckMaster(m), c.want)
	}
}

// fits says whether a stream can be shown on a screen.
func fits(s api.Stream, width, height int) bool {
	return width == 0 && height == 0 || s.Width <= width && s.Height <= height
}

func TestBest(t *testing.T) {
	m := master()
	for _, c := range []struct{ rate, width, height, want int }{
		{500, 0, 0, 1}, {499, 0, 0, 0}, {200, 0, 0, 0}, {199, 0, 0, 2}, {50, 0, 0, 2}, {49, 0, 0, 2}, {0, 0, 0, 2}, {maxBits, 0, 0, 1},
		{500, 1280, 720, 1}, {500, 1279, 720, 0}, {500, 1280, 719, 0}, {500, 640, 360, 0}, {500, 639, 360, 2}, {500, 640, 359, 2}, {500, 0, 720, 2}, {500, 1280, 0, 2}, {500, 1, 1, 2},
		{maxBits, api.MaxSide, api.MaxSide, 1}, {0, api.MaxSide, api.MaxSide, 2},
	} {
		i, f := list.Best(m, c.rate, c.width, c.height)
		is(t, fmt.Sprint("Best ", c), i, f, c.want)
	}
	pictures := api.Master{Streams: m.Streams[:2]}
	pictures.Streams[0].Sound, pictures.Streams[1].Sound = "", ""
	for _, c := range []struct{ rate, width, height, want int }{{0, 0, 0, 0}, {0, 1280, 720, 0}, {500, 1280, 720, 1}, {0, 640, 360, 0}} {
		i, f := list.Best(pictures, c.rate, c.width, c.height)
		is(t, fmt.Sprint("Best of pictures ", c), i, f, c.want)
	}
	// Of several the first one: of those that fit, the greatest Mean; of others, the least Peak.
	equals := tall(4)
	for i, rates := range []pair{{3, 9}, {5, 8}, {5, 6}, {4, 6}} {
		equals.Streams[i].Mean, equals.Streams[i].Peak = rates.a, rates.b
	}
	for rate, want := range map[int]int{10: 1, 9: 1, 8: 1, 7: 2, 6: 2, 5: 2, 0: 2} {
		i, f := list.Best(equals, rate, 0, 0)
		is(t, fmt.Sprint("Best of equals ", rate), i, f, want)
	}
}

func TestBestFaults(t *testing.T) {
	type args struct {
		m                   api.Master
		rate, width, height int
	}
	good := func() args {
		m := master()
		m.Streams = m.Streams[:2]
		return args{m, 500, 1280, 720}
	}
	call := func(a args) api.Fault {
		i, f := list.Best(a.m, a.rate, a.width, a.height)
		isWhole(t, "Best", i, f)
		return f
	}
	wrongs := []wrong[args]{{"a wrong list", api.ErrName, func(a *args) { a.m.Streams[0].Name = "" }}}
	for _, n := range numbers {
		if n < 0 || n > maxBits {
			wrongs = append(wrongs, wrong[args]{fmt.Sprint("rate ", n), api.ErrRange, func(a *args) { a.rate = n }})
		}
		if n < 0 || n > api.MaxSide {
			wrongs = append(wrongs,
				wrong[args]{fmt.Sprint("width ", n), api.ErrRange, func(a *args) { a.width = n }},
				wrong[args]{fmt.Sprint("height ", n), api.ErrRange, func(a *args) { a.height = n }},
			)
		}
	}
	wrongs = append(wrongs,
		wrong[args]{"a small screen", api.ErrNone, func(a *args) { a.width = min(a.width, 639) }},
		wrong[args]{"a flat screen", api.ErrNone, func(a *args) { a.height = min(a.height, 359) }},
		wrong[args]{"a screen without width", api.ErrNone, func(a *args) { a.width = min(a.width, 0) }},
		wrong[args]{"a screen without height", api.ErrNone, func(a *args) { a.height = 0 }},
	)
	inOrder(t, "Best", good, call, wrongs[:len(wrongs)-2])
	for _, w := range wrongs[len(wrongs)-2:] {
		a := good()
		w.change(&a)
		isFault(t, "Best with "+w.what, call(a), w.fault)
	}
	for _, m := range []api.Master{{}, {Sounds: master().Sounds}} {
		i, f := list.Best(m, 500, 0, 0)
		isNot(t, "Best of no streams", i, f, api.ErrNone)
		i, f = list.Best(m, -1, 0, 0)
		isNot(t, "Best of no streams", i, f, api.ErrRange)
	}
}

func TestManyBest(t *testing.T) {
	r := rand.New(rand.NewSource(15))
	for range 5000 {
		m := tall(r.Intn(7))
		for i := range m.Streams {
			s := &m.Streams[i]
			s.Mean = 1 + r.Intn(6)
			s.Peak = s.Mean + r.Intn(4)
			if r.Intn(4) > 0 {
				s.Width, s.Height = 1+r.Intn(4), 1+r.Intn(4)
			}
		}
		rate, width, height := r.Intn(10), r.Intn(5), r.Intn(5)
		best, least := -1, -1
		for i := len(m.Streams) - 1; i >= 0; i-- {
			s := m.Streams[i]
			if !fits(s, width, height) {
				continue
			}
			if least < 0 || s.Peak <= m.Streams[least].Peak {
				least = i
			}
			if s.Peak <= rate && (best < 0 || s.Mean >= m.Streams[best].Mean) {
				best = i
			}
		}
		if best < 0 {
			best = least
		}
		i, f := list.Best(m, rate, width, height)
		if best < 0 {
			isNot(t, "Best", i, f, api.ErrNone)
			continue
		}
		is(t, fmt.Sprint("Best ", m.Streams, rate, width, height), i, f, best)
	}
}
