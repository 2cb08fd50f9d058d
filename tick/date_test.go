package tick_test

import (
	"fmt"
	"math"
	"testing"
	"time"

	"headend/api"
	"headend/tick"
)

const dayMilli = 86400000

// moments are pairs of milliseconds and dates.
var moments = map[int]string{
	0:               "1970-01-01T00:00:00.000Z",
	1:               "1970-01-01T00:00:00.001Z",
	999:             "1970-01-01T00:00:00.999Z",
	1000:            "1970-01-01T00:00:01.000Z",
	59999:           "1970-01-01T00:00:59.999Z",
	60000:           "1970-01-01T00:01:00.000Z",
	3599999:         "1970-01-01T00:59:59.999Z",
	3600000:         "1970-01-01T01:00:00.000Z",
	dayMilli - 1:    "1970-01-01T23:59:59.999Z",
	dayMilli:        "1970-01-02T00:00:00.000Z",
	31535999999:     "1970-12-31T23:59:59.999Z",
	31536000000:     "1971-01-01T00:00:00.000Z",
	68169600000:     "1972-02-29T00:00:00.000Z",
	94694399999:     "1972-12-31T23:59:59.999Z",
	951782400000:    "2000-02-29T00:00:00.000Z",
	951868799999:    "2000-02-29T23:59:59.999Z",
	951868800000:    "2000-03-01T00:00:00.000Z",
	978307199999:    "2000-12-31T23:59:59.999Z",
	4107542399999:   "2100-02-28T23:59:59.999Z",
	4107542400000:   "2100-03-01T00:00:00.000Z",
	13574563200000:  "2400-02-29T00:00:00.000Z",
	253402214400000: "9999-12-31T00:00:00.000Z",
	api.MaxMilli:    "9999-12-31T23:59:59.999Z",
}

func TestDates(t *testing.T) {
	for milli, text := range moments {
		s, f := tick.Date(milli)
		isValue(t, fmt.Sprint("Date ", milli), s, f, text)
		n, f := tick.ReadDate(text)
		isValue(t, "ReadDate "+text, n, f, milli)
	}
}

func TestDateFaults(t *testing.T) {
	for _, milli := range []int{-1, api.MaxMilli + 1, math.MinInt, math.MaxInt} {
		s, f := tick.Date(milli)
		isFault(t, fmt.Sprint("Date ", milli), s, f, api.ErrRange)
	}
}

func TestReadDateFaults(t *testing.T) {
	for _, text := range []string{
		"", "Z", "2000-02-29", "2000-02-29T00:00:00Z", "2000-02-29T00:00:00.00Z", "2000-02-29T00:00:00.0000Z",
		"2000-02-29T00:00:00.000", "2000-02-29T00:00:00.000Z ", " 2000-02-29T00:00:00.000Z", "2000-02-29T00:00:00.000ZZ",
		"2000-02-29 00:00:00.000Z", "2000-02-29t00:00:00.000Z", "2000-02-29T00:00:00.000z", "2000-02-29T00:00:00,000Z",
		"2000/02/29T00:00:00.000Z", "2000-02/29T00:00:00.000Z", "2000-02-29T00.00:00.000Z", "2000-02-29T00:00.00.000Z",
		"2000-02-29T00:00:00.000+", "20000-2-29T00:00:00.000Z", "2000-2-029T00:00:00.000Z", "+200-02-28T00:00:00.000Z",
		"-200-02-28T00:00:00.000Z", "2000-02-29T00:00:00.-01Z", "2000-02-29T00:00:-1.000Z", "2000-02-29T00:+1:00.000Z",
		"2000-02-29T 1:00:00.000Z", "2000-02-29T00:00:00.00aZ", "200a-02-29T00:00:00.000Z", "2000-02-29T00:00:00.00:Z",
		"1969-12-31T23:59:59.999Z", "0000-01-01T00:00:00.000Z", "0001-01-01T00:00:00.000Z",
		"2000-00-01T00:00:00.000Z", "2000-13-01T00:00:00.000Z", "2000-99-01T00:00:00.000Z",
		"2000-01-00T00:00:00.000Z", "2000-01-32T00:00:00.000Z", "2000-02-30T00:00:00.000Z", "2001-02-29T00:00:00.000Z",
		"2100-02-29T00:00:00.000Z", "2200-02-29T00:00:00.000Z", "2004-02-30T00:00:00.000Z", "2000-03-32T00:00:00.000Z",
		"2000-04-31T00:00:00.000Z", "2000-05-32T00:00:00.000Z", "2000-06-31T00:00:00.000Z", "2000-07-32T00:00:00.000Z",
		"2000-08-32T00:00:00.000Z", "2000-09-31T00:00:00.000Z", "2000-10-32T00:00:00.000Z", "2000-11-31T00:00:00.000Z",
		"2000-12-32T00:00:00.000Z", "2000-02-29T24:00:00.000Z", "2000-02-29T23:60:00.000Z", "2000-02-29T23:59:60.000Z",
		"2000-02-29T99:00:00.000Z", "2016-12-31T23:59:60.000Z", "２000-02-29T00:00:00.00Z", "2000-02-29T00:00:00.000\xff",
	} {
		n, f := tick.ReadDate(text)
		isFault(t, fmt.Sprintf("ReadDate %q", text), n, f, api.ErrSyntax)
	}
}

// The first and the last millisecond of days, as the library has them, and between them some of every year.
func TestDatesAsTheCalendar(t *testing.T) {
	check := func(milli int) {
		t.Helper()
		want := time.UnixMilli(int64(milli)).UTC().Format("2006-01-02T15:04:05.000Z")
		s, f := tick.Date(milli)
		isValue(t, fmt.Sprint("Date ", milli), s, f, want)
		n, f := tick.ReadDate(want)
		isValue(t, "ReadDate "+want, n, f, milli)
	}
	for day := range (api.MaxMilli + 1) / dayMilli {
		if day < 150000 || day%97 == 0 { // beyond 400 years the calendar begins again
			check(day * dayMilli)
			check(day*dayMilli + dayMilli - 1)
		}
	}
	for milli := 0; milli <= api.MaxMilli; milli += 8640000007 {
		check(milli)
	}
}
