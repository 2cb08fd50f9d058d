package check_test

import (
	"math"
	"strings"
	"testing"

	"headend/api"
	"headend/check"
)

func TestFirst(t *testing.T) {
	for _, c := range []struct {
		faults []api.Fault
		want   api.Fault
	}{
		{nil, api.OK},
		{[]api.Fault{api.OK, api.OK}, api.OK},
		{[]api.Fault{api.ErrName}, api.ErrName},
		{[]api.Fault{api.OK, api.ErrRange, api.ErrLarge, api.OK}, api.ErrRange},
	} {
		if f := check.First(c.faults...); f != c.want {
			t.Error("First", c.faults, f)
		}
	}
	if f := check.If(false, api.ErrForm); f != api.OK {
		t.Error("If", f)
	}
	if f := check.If(true, api.ErrForm); f != api.ErrForm {
		t.Error("If", f)
	}
}

func TestEach(t *testing.T) {
	var examined []string
	examine := func(i int, name string) api.Fault {
		if i != len(examined) {
			t.Error("Each: element", i)
		}
		examined = append(examined, name)
		return check.If(name == "", api.ErrName)
	}
	if f := check.Each(nil, examine); f != api.OK || len(examined) > 0 {
		t.Error("Each", f, examined)
	}
	if f := check.Each([]string{"a", "b"}, examine); f != api.OK || strings.Join(examined, " ") != "a b" {
		t.Error("Each", f, examined)
	}
	examined = nil
	if f := check.Each([]string{"a", "", "b", ""}, examine); f != api.ErrName || len(examined) != 2 {
		t.Error("Each", f, examined)
	}
}

func TestNumbers(t *testing.T) {
	for _, c := range []struct {
		n           int
		time, scale bool
	}{
		{math.MinInt, false, false},
		{-api.MaxTime - 1, false, false},
		{-api.MaxTime, true, false},
		{0, true, false},
		{1, true, true},
		{api.MaxScale, true, true},
		{api.MaxScale + 1, true, false},
		{api.MaxTime, true, false},
		{api.MaxTime + 1, false, false},
		{math.MaxInt, false, false},
	} {
		if check.IsTime(c.n) != c.time || check.IsScale(c.n) != c.scale {
			t.Error(c.n, check.IsTime(c.n), check.IsScale(c.n))
		}
	}
	for n, want := range []bool{false, true, true, true, false} {
		if check.Within(n, 1, 3) != want {
			t.Error("Within", n)
		}
	}
}

// G8: names.
func TestNames(t *testing.T) {
	for name, want := range map[string]bool{
		"a": true, "z9-": true, "video-720": true, "a--": true,
		strings.Repeat("a", api.MaxName): true, strings.Repeat("a", api.MaxName+1): false,
		"": false, "-a": false, "9a": false, "A": false, "aB": false, "a b": false, "a_b": false, "ä": false, "a\x00": false, "a`": false, "a{": false, "a/": false, "a:": false,
	} {
		if check.IsName(name) != want {
			t.Errorf("IsName %q: not %v", name, want)
		}
	}
	for b := range 256 {
		letter, digit := strings.IndexByte("abcdefghijklmnopqrstuvwxyz", byte(b)) >= 0, strings.IndexByte("0123456789", byte(b)) >= 0
		if check.IsLetter(byte(b)) != letter || check.IsDigit(byte(b)) != digit {
			t.Error("IsLetter, IsDigit", b)
		}
	}
}

func TestWords(t *testing.T) {
	for text, want := range map[string]bool{"a": true, "!~": true, "#-": true, strings.Repeat("x", 1000): true, "": false, " ": false, "a b": false, "a\n": false, "a\x7f": false, "ä": false} {
		if check.IsWord(text) != want {
			t.Errorf("IsWord %q: not %v", text, want)
		}
	}
	for b := range 256 {
		if check.IsWord("a"+string([]byte{byte(b)})) != (b > 32 && b < 127) {
			t.Error("IsWord", b)
		}
	}
}
