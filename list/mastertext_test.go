package list_test

import (
	"fmt"
	"math/rand"
	"regexp"
	"strings"
	"testing"

	"headend/api"
	"headend/list"
)

const masterText = "#MASTER\n" +
	"#SOUND aac main en DEFAULT\ns1\n#SOUND aac other zh-hant\ns2\n#SOUND opus main en DEFAULT\ns1\n" +
	"#STREAM low 100 200 640 360 aac\nl\n#STREAM high 300 500 1280 720 opus\nh\n#STREAM sound 50 50 0 0 -\ns1\n"

func TestMasterText(t *testing.T) {
	name, uri := strings.Repeat("n", api.MaxName), strings.Repeat("u", api.MaxUri)
	greatest := api.Master{
		Sounds:  []api.Sound{{Group: name, Name: name, Language: "a-z-a-z-", Default: true, Uri: uri}},
		Streams: []api.Stream{{Name: name, Uri: uri, Mean: maxBits, Peak: maxBits, Width: api.MaxSide, Height: api.MaxSide, Sound: name}},
	}
	for want, m := range map[string]api.Master{
		masterText:                            master(),
		"#MASTER\n":                           {},
		"#MASTER\n#STREAM a 1 1 0 0 -\nu\n":   {Streams: []api.Stream{{Name: "a", Uri: "u", Mean: 1, Peak: 1}}},
		"#MASTER\n#SOUND a b -- DEFAULT\nu\n": {Sounds: []api.Sound{{Group: "a", Name: "b", Language: "--", Default: true, Uri: "u"}}},
		"#MASTER\n#SOUND a b en\nDEFAULT\n":   {Sounds: []api.Sound{{Group: "a", Name: "b", Language: "en", Uri: "DEFAULT"}}},
		"#MASTER\n#SOUND " + name + " " + name + " a-z-a-z- DEFAULT\n" + uri + "\n#STREAM " + name + " 10000000000 10000000000 20000 20000 " + name + "\n" + uri + "\n": greatest,
	} {
		text, f := list.MasterText(m)
		is(t, "MasterText", text, f, want)
		got, line, f := list.ReadMaster(want)
		is(t, "ReadMaster", got, f, m)
		is(t, "ReadMaster", line, f, 0)
	}
	m := master()
	m.Streams[0].Mean = 0
	text, f := list.MasterText(m)
	isNot(t, "MasterText", text, f, api.ErrRange)
}

func TestReadMasterSyntax(t *testing.T) {
	const head, sound, stream = "#MASTER\n", "#SOUND a b en\nu\n", "#STREAM c 1 2 3 4 a\nu\n"
	for text, line := range map[string]int{
		"": 1, "\n": 1, "#MASTER": 1, "#LIST\n": 1, "#MASTER \n": 1, "#master\n": 1, "#MASTER\r\n": 1, sound: 1, stream: 1,
		head + "\n": 2, head + "u\n": 2, head + "#END\n": 2, head + "#MASTER\n": 2, head + "#X\n": 2, head + sound + "u\n": 4, head + stream + "\n": 4,
		// something is missing
		head + "#SOUND a b en": 2, head + "#SOUND a b en\n": 3, head + "#SOUND a b en\nu": 3, head + "#STREAM c 1 2 3 4 a": 2, head + "#STREAM c 1 2 3 4 a\n": 3, head + "#STREAM c 1 2 3 4 a\nu": 3, head + sound + "#SOUND a c en\n": 5, head + stream + "#STREAM d 1 2 3 4 a\n": 5,
		// lines out of their order
		head + stream + sound: 4, head + sound + stream + sound: 6, head + "#SOUND a b en\n" + stream: 3, head + "#STREAM c 1 2 3 4 a\n" + sound: 3, head + "#SOUND a b en\n#SOUND a c en\nu\n": 3, head + "#SOUND a b en\n\n": 3, head + "#STREAM c 1 2 3 4 a\n#\n": 3,
		// sounds
		head + "#SOUND\nu\n": 2, head + "#SOUND \nu\n": 2, head + "#SOUND a\nu\n": 2, head + "#SOUND a b\nu\n": 2, head + "#SOUND a b \nu\n": 2, head + "#SOUND a  en\nu\n": 2, head + "#SOUND  a b en\nu\n": 2, head + "#SOUND a b en \nu\n": 2, head + "#SOUND a b en default\nu\n": 2, head + "#SOUND a b en  DEFAULT\nu\n": 2, head + "#SOUND a b en DEFAULT \nu\n": 2, head + "#SOUND a b en DEFAULT DEFAULT\nu\n": 2, head + "#SOUND a b en DEFAULTS\nu\n": 2, head + "#SOUND a b en x\nu\n": 2, head + "#SOUND a\x00 b en\nu\n": 2, head + "#SOUND a b\x7f en\nu\n": 2, head + "#SOUND a b ä\nu\n": 2, head + "#SOUND a\tb en\nu\n": 2, head + "#SOUND a b en\r\nu\n": 2, head + "#sound a b en\nu\n": 2, head + "#SOUNDa b en\nu\n": 2,
		// streams
		head + "#STREAM\nu\n": 2, head + "#STREAM c 1 2 3 4\nu\n": 2, head + "#STREAM c 1 2 3 4 \nu\n": 2, head + "#STREAM c 1 2 3 4 a a\nu\n": 2, head + "#STREAM c 1 2 3 a\nu\n": 2, head + "#STREAM  1 2 3 4 a\nu\n": 2, head + "#STREAM c  2 3 4 a\nu\n": 2, head + "#STREAM c 1 2  3 4 a\nu\n": 2, head + "#STREAM c 1 2 3 4 a \nu\n": 2, head + "#STREAM c 01 2 3 4 a\nu\n": 2, head + "#STREAM c 1 02 3 4 a\nu\n": 2, head + "#STREAM c 1 2 03 4 a\nu\n": 2, head + "#STREAM c 1 2 3 00 a\nu\n": 2, head + "#STREAM c -1 2 3 4 a\nu\n": 2, head + "#STREAM c +1 2 3 4 a\nu\n": 2, head + "#STREAM c 1 2 3 - a\nu\n": 2, head + "#STREAM c 1 2 3 4x a\nu\n": 2, head + "#STREAM c 1.0 2 3 4 a\nu\n": 2, head + "#STREAM c 1 2 3 123456789012 a\nu\n": 2, head + "#STREAM c 100000000000 2 3 4 a\nu\n": 2, head + "#STREAM c\x00 1 2 3 4 a\nu\n": 2, head + "#STREAM c 1 2 3 4 ä\nu\n": 2, head + "#STREAM c 1 2 3 4 a\x7f\nu\n": 2, head + "#STREAM c 1 2 3 4 -\r\nu\n": 2, head + "#stream c 1 2 3 4 a\nu\n": 2,
		// the first one of two; syntax before all that CheckMaster says
		head + sound + "#STREAM c\nu\n#STREAM c\nu\n": 4, head + sound + sound + "x\n": 6, head + "#SOUND A B C\na b\nx\n": 4,
	} {
		m, got, f := list.ReadMaster(text)
		isNot(t, fmt.Sprintf("ReadMaster %q", text), m, f, api.ErrSyntax)
		if got != line {
			t.Errorf("ReadMaster %q: line %d, want %d", text, got, line)
		}
	}
}

func TestReadMasterFaults(t *testing.T) {
	const head, sound, stream = "#MASTER\n", "#SOUND a b en\nu\n", "#STREAM c 1 2 3 4 a\nu\n"
	for text, want := range map[string]pair{
		strings.Repeat("\n", api.MaxListText+1):                                             {0, int(api.ErrLarge)},
		head + strings.Repeat("u", api.MaxListText):                                         {0, int(api.ErrLarge)},
		head + strings.Repeat("u", api.MaxListText-len(head)):                               {2, int(api.ErrSyntax)},
		head + "#SOUND a b en\n" + strings.Repeat("u", api.MaxListText-len(head)-15) + "\n": {0, int(api.ErrForm)},
		head + strings.Repeat(sound, api.MaxStreams+1):                                      {0, int(api.ErrLarge)},
		head + sound + strings.Repeat(stream, api.MaxStreams+1):                             {0, int(api.ErrLarge)},
		head + "#SOUND A b en\nu\n":                                                         {0, int(api.ErrName)},
		head + "#SOUND - b en\nu\n":                                                         {0, int(api.ErrName)},
		head + "#SOUND a - en\nu\n":                                                         {0, int(api.ErrName)},
		head + "#SOUND a b EN\nu\n":                                                         {0, int(api.ErrForm)},
		head + "#SOUND a b DEFAULT\nu\n":                                                    {0, int(api.ErrForm)}, // a Language
		head + "#SOUND a DEFAULT DEFAULT\nu\n":                                              {0, int(api.ErrName)},
		head + "#SOUND a b en\nu v\n":                                                       {0, int(api.ErrForm)},
		head + "#SOUND a b en\n\x00\n":                                                      {0, int(api.ErrForm)},
		head + sound + sound:                                                                {0, int(api.ErrTwice)},
		head + "#SOUND a b en DEFAULT\nu\n#SOUND a c en DEFAULT\nu\n":                       {0, int(api.ErrClash)},
		head + stream:                                         {0, int(api.ErrName)},
		head + "#STREAM - 1 2 3 4 -\nu\n":                     {0, int(api.ErrName)},
		head + "#STREAM c 1 2 3 4 #\nu\n":                     {0, int(api.ErrName)},
		head + "#STREAM c 0 2 3 4 -\nu\n":                     {0, int(api.ErrRange)},
		head + "#STREAM c 10000000001 10000000001 3 4 -\nu\n": {0, int(api.ErrRange)},
		head + "#STREAM c 1 99999999999 3 4 -\nu\n":           {0, int(api.ErrRange)},
		head + "#STREAM c 2 1 3 4 -\nu\n":                     {0, int(api.ErrRange)},
		head + "#STREAM c 1 2 0 4 -\nu\n":                     {0, int(api.ErrRange)},
		head + "#STREAM c 1 2 3 99999999999 -\nu\n":           {0, int(api.ErrRange)},
		head + "#STREAM c 1 2 3 4 -\nu\r\n":                   {0, int(api.ErrForm)},
	} {
		m, line, f := list.ReadMaster(text)
		isNot(t, fmt.Sprintf("ReadMaster %.80q", text), m, f, api.Fault(want.b))
		if line != want.a {
			t.Errorf("ReadMaster %.80q: line %d, want %d", text, line, want.a)
		}
	}
}

var (
	masterForms = map[string]*regexp.Regexp{
		"M": regexp.MustCompile(`^#MASTER$`),
		"s": regexp.MustCompile(`^#SOUND( [!-~]+){3}( DEFAULT)?$`),
		"v": regexp.MustCompile(`^#STREAM [!-~]+( (0|[1-9]\d{0,10})){4} [!-~]+$`),
		"u": regexp.MustCompile(`^[^#]`),
	}
	masterShape = regexp.MustCompile(`^M(su)*(vu)*$`)
)

// wrongMasterLine returns the number of the first line of a text that is wrong, or 0.
func wrongMasterLine(text string) int {
	letters := ""
	for line := range strings.SplitAfterSeq(text, "\n") {
		if line == "" { // behind the last one
			break
		}
		letter := "?"
		for l, form := range masterForms {
			if strings.HasSuffix(line, "\n") && form.MatchString(strings.TrimSuffix(line, "\n")) {
				letter = l
			}
		}
		letters += letter
		if !masterShape.MatchString(letters) && !masterShape.MatchString(letters+"u") {
			return len(letters)
		}
	}
	if !masterShape.MatchString(letters) {
		return len(letters) + 1
	}
	return 0
}

func TestManyMasterTexts(t *testing.T) {
	r := rand.New(rand.NewSource(16))
	drawMaster := func() api.Master {
		m := master()
		m.Sounds, m.Streams = m.Sounds[:r.Intn(4)], m.Streams[:r.Intn(4)]
		for i := range m.Streams {
			if len(m.Sounds) < 3 {
				m.Streams[i].Sound = ""
			}
		}
		return m
	}
	faults := manyTexts(t, r, drawMaster, list.MasterText, list.ReadMaster, wrongMasterLine)
	for _, f := range []api.Fault{api.OK, api.ErrSyntax, api.ErrName, api.ErrForm} {
		if faults[f] < 100 {
			t.Error("too few with fault", f, faults)
		}
	}
}
