package tick_test

import (
	"fmt"
	"math"
	"math/big"
	"math/rand"
	"strings"
	"testing"

	"headend/api"
	"headend/tick"
)

func TestDecimal(t *testing.T) {
	for _, c := range []struct {
		n, scale, places int
		want             string
	}{
		{0, 1, 0, "0"},
		{0, 1, 3, "0.000"},
		{1, 8, 2, "0.13"},
		{1, 8, 3, "0.125"},
		{1, 8, 1, "0.1"},
		{-1, 8, 2, "-0.13"},
		{1, 2, 0, "1"}, // of two, the one further from 0
		{-1, 2, 0, "-1"},
		{3, 2, 0, "2"},
		{1, 3, 0, "0"},
		{-1, 3, 0, "0"}, // what is written is not below 0
		{-1, 1000, 2, "0.00"},
		{-5, 1000, 2, "-0.01"},
		{-4, 1000, 2, "0.00"},
		{999, 1000, 2, "1.00"},
		{-999, 1000, 2, "-1.00"},
		{9995, 1000, 2, "10.00"},
		{9994, 1000, 2, "9.99"},
		{-1500, 1000, 1, "-1.5"},
		{12, 1, 0, "12"},
		{12, 1, 2, "12.00"},
		{1050, 1000, 3, "1.050"},
		{90090, 90000, 9, "1.001000000"},
		{1, api.MaxScale, 9, "0.000000001"},
		{-1, api.MaxScale, 9, "-0.000000001"},
		{1, api.MaxScale, 8, "0.00000000"},
		{999999999, api.MaxScale, 8, "1.00000000"},
		{api.MaxTime, api.MaxScale, 0, "1000000"},
		{api.MaxTime, 1, 9, "1000000000000000.000000000"},
		{-api.MaxTime, 1, 9, "-1000000000000000.000000000"},
		{-api.MaxTime + 1, 3, 9, "-333333333333333.000000000"},
		{api.MaxTime, 999999999, 9, "1000000.001000000"},
	} {
		s, f := tick.Decimal(c.n, c.scale, c.places)
		isValue(t, fmt.Sprint("Decimal ", c.n, c.scale, c.places), s, f, c.want)
	}
}

func TestDecimalFaults(t *testing.T) {
	for _, c := range [][3]int{
		{api.MaxTime + 1, 1, 0}, {-api.MaxTime - 1, 1, 0}, {math.MinInt, 1, 0},
		{1, 0, 0}, {1, -1, 0}, {1, api.MaxScale + 1, 0},
		{1, 1, -1}, {1, 1, api.MaxPlaces + 1},
	} {
		s, f := tick.Decimal(c[0], c[1], c[2])
		isFault(t, fmt.Sprint("Decimal ", c), s, f, api.ErrRange)
	}
}

func TestReadDecimal(t *testing.T) {
	for _, c := range []struct {
		text                  string
		scale, down, near, up int
	}{
		{"0", 1000, 0, 0, 0},
		{"-0", 1000, 0, 0, 0},
		{"-0.0", 1000, 0, 0, 0},
		{"0.000000000", 1, 0, 0, 0},
		{"7", 1000, 7000, 7000, 7000},
		{"10", 1, 10, 10, 10},
		{"1.5", 3, 4, 5, 5},
		{"-1.5", 3, -5, -5, -4},
		{"1.4", 1, 1, 1, 2},
		{"1.6", 1, 1, 2, 2},
		{"-1.4", 1, -2, -1, -1},
		{"-1.6", 1, -2, -2, -1},
		{"-0.5", 1, -1, -1, 0},
		{"0.5", 1, 0, 1, 1},
		{"0.000000001", 1, 0, 0, 1},
		{"-0.000000001", 1, -1, 0, 0},
		{"0.000000001", api.MaxScale, 1, 1, 1},
		{"1.050", 1000, 1050, 1050, 1050},
		{"0.333333333", 90000, 29999, 30000, 30000},
		{"1000000", api.MaxScale, api.MaxTime, api.MaxTime, api.MaxTime},
		{"-1000000.000000000", api.MaxScale, -api.MaxTime, -api.MaxTime, -api.MaxTime},
		{"999999.999999999", api.MaxScale, api.MaxTime - 1, api.MaxTime - 1, api.MaxTime - 1},
		{"1000000000000000", 1, api.MaxTime, api.MaxTime, api.MaxTime},
		{"1000000.001", 999999999, 999999999999999, 1000000000000000, 1000000000000000},
	} {
		for way, want := range map[int]int{api.Down: c.down, api.Near: c.near, api.Up: c.up} {
			n, f := tick.ReadDecimal(c.text, c.scale, way)
			isValue(t, fmt.Sprint("ReadDecimal ", c.text, c.scale, way), n, f, want)
		}
	}
}

func TestReadDecimalSyntax(t *testing.T) {
	for _, text := range []string{
		"", "-", ".", "-.", ".5", "5.", "-.5", "-5.", "00", "00.5", "01", "-01", "+1", "--1", "1-", "1e3", "0x1", "1_0",
		" 1", "1 ", "1. 5", "1,5", "1.2.3", "1..2", "1.-2", "1.+2", "1.0000000000", "0.1234567890", "/", ":", "1.:", "1./",
		"\xff", "１", "1\x00", "1.5\n",
		strings.Repeat("1", 31), "-" + strings.Repeat("1", 30), strings.Repeat("9", 1000), "0." + strings.Repeat("0", 29),
	} {
		n, f := tick.ReadDecimal(text, 1000, api.Down)
		isFault(t, fmt.Sprintf("ReadDecimal %q", text), n, f, api.ErrSyntax)
	}
}

func TestReadDecimalFaults(t *testing.T) {
	thirty := strings.Repeat("1", 30)
	for _, c := range []struct {
		text       string
		scale, way int
		want       api.Fault
	}{
		{"1", 0, api.Down, api.ErrRange},
		{"1", -1, api.Down, api.ErrRange},
		{"1", api.MaxScale + 1, api.Down, api.ErrRange},
		{"1", 1, 0, api.ErrKind},
		{"1", 1, 4, api.ErrKind},
		{"1000000000000001", 1, api.Down, api.ErrRange},
		{"-1000000000000001", 1, api.Up, api.ErrRange},
		{"1000000000000000.5", 1, api.Near, api.ErrRange},
		{"1000000000000000.000000001", 1, api.Up, api.ErrRange},
		{"-1000000000000000.5", 1, api.Near, api.ErrRange},
		{"-1000000000000000.000000001", 1, api.Down, api.ErrRange},
		{"1000000.000000001", api.MaxScale, api.Down, api.ErrRange},
		{"1000001", api.MaxScale, api.Down, api.ErrRange},
		{"9223372036854775808", 1, api.Down, api.ErrRange},
		{"18446744073709551616", 1, api.Down, api.ErrRange},
		{"18446744073709551617", 1, api.Down, api.ErrRange},
		{"-18446744073709551617", 1, api.Down, api.ErrRange},
		{thirty, 1, api.Down, api.ErrRange}, // 30 bytes can be read
		{thirty, api.MaxScale, api.Up, api.ErrRange},
		{"-" + thirty[1:], api.MaxScale, api.Up, api.ErrRange},
		// the first of several faults
		{"", 0, 0, api.ErrRange},
		{"1000000000000001", 0, 0, api.ErrRange},
		{"", 1, 0, api.ErrKind},
		{"1000000000000001", 1, 0, api.ErrKind},
		{"1000000000000001.", 1, api.Down, api.ErrSyntax},
	} {
		n, f := tick.ReadDecimal(c.text, c.scale, c.way)
		isFault(t, fmt.Sprint("ReadDecimal ", c.text, c.scale, c.way), n, f, c.want)
	}
	n, f := tick.ReadDecimal("1000000000000000.999999999", 1, api.Down)
	isValue(t, "ReadDecimal", n, f, api.MaxTime)
	n, f = tick.ReadDecimal("1000000000000000.4", 1, api.Near)
	isValue(t, "ReadDecimal", n, f, api.MaxTime)
	n, f = tick.ReadDecimal("-1000000000000000.999999999", 1, api.Up)
	isValue(t, "ReadDecimal", n, f, -api.MaxTime)
}

func TestDecimalsAreExact(t *testing.T) {
	r := rand.New(rand.NewSource(4))
	for range 20000 {
		n := (r.Intn(2*api.MaxTime+1) - api.MaxTime) >> r.Intn(50)
		scale := 1 + r.Intn(api.MaxScale)>>r.Intn(30)
		places := r.Intn(api.MaxPlaces + 1)
		text, f := tick.Decimal(n, scale, places)
		units := exact(product(n, power(places)), big.NewInt(int64(scale)), api.Near)
		isValue(t, fmt.Sprint("Decimal ", n, scale, places), text, f, pointed(units, places))

		other, way := 1+r.Intn(api.MaxScale)>>r.Intn(30), 1+r.Intn(3)
		want := exact(new(big.Int).Mul(units, big.NewInt(int64(other))), big.NewInt(int64(power(places))), way)
		got, f := tick.ReadDecimal(text, other, way)
		if isTime(want) {
			isValue(t, fmt.Sprint("ReadDecimal ", text, other, way), got, f, int(want.Int64()))
		} else {
			isFault(t, fmt.Sprint("ReadDecimal ", text, other, way), got, f, api.ErrRange)
		}
	}
}

func power(places int) int {
	return int(math.Pow10(places))
}

// pointed writes a number of units, of which 10^places are 1.
func pointed(units *big.Int, places int) string {
	whole, part := new(big.Int).QuoRem(new(big.Int).Abs(units), big.NewInt(int64(power(places))), new(big.Int))
	text := whole.String()
	if places > 0 {
		text += fmt.Sprintf(".%0*d", places, part)
	}
	if units.Sign() < 0 {
		text = "-" + text
	}
	return text
}

// With nine places and a scale that is a power of 10, what is read is what was written.
func TestReadDecimalOfDecimal(t *testing.T) {
	for _, scale := range []int{1, 1000, api.MaxScale} {
		for _, n := range []int{0, 1, -1, 999, -1001, 123456789012345, api.MaxTime, -api.MaxTime} {
			text, f := tick.Decimal(n, scale, 9)
			if f != api.OK || len(text) > 27 {
				t.Error("Decimal", n, scale, text, f)
			}
			for way := api.Down; way <= api.Up; way++ {
				again, f := tick.ReadDecimal(text, scale, way)
				isValue(t, "ReadDecimal of "+text, again, f, n)
			}
		}
	}
}
