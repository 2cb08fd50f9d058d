package tick

import (
	"strconv"
	"strings"

	"headend/api"
	"headend/check"
)

// maxDecimal is how many bytes of a decimal are read.
const maxDecimal = 30

// Decimal returns n / scale with so many digits after the point.
func Decimal(n, scale, places int) (string, api.Fault) {
	if !check.IsTime(n) || !check.IsScale(scale) || !check.Within(places, 0, api.MaxPlaces) {
		return "", api.ErrRange
	}
	unit := power(places)
	whole := size(n) / scale
	part := portion(size(n)%scale, unit, scale, api.Near)
	if part == unit {
		whole, part = whole+1, 0
	}
	text := strconv.Itoa(whole)
	if places > 0 {
		text += "." + padded(part, places)
	}
	if n < 0 && (whole > 0 || part > 0) {
		text = "-" + text
	}
	return text, api.OK
}

// ReadDecimal returns as many ticks as a text says seconds, rounded by a way.
func ReadDecimal(text string, scale, way int) (int, api.Fault) {
	if !check.IsScale(scale) {
		return 0, api.ErrRange
	}
	if !isWay(way) {
		return 0, api.ErrKind
	}
	body, negative := strings.CutPrefix(text, "-")
	whole, part, point := strings.Cut(body, ".")
	if len(text) > maxDecimal || !isNumber(whole) || point && !isPart(part) {
		return 0, api.ErrSyntax
	}
	// The seconds before the point are whole ticks, so that only the part behind it is rounded.
	ticks := portion(signed(number(whole), negative), scale, 1, way)
	ticks += portion(signed(number(part), negative), scale, power(len(part)), way)
	if !check.IsTime(ticks) {
		return 0, api.ErrRange
	}
	return ticks, api.OK
}

// power returns 1 with so many zeros.
func power(zeros int) int {
	n := 1
	for range zeros {
		n *= 10
	}
	return n
}

// padded returns n with at least so many digits.
func padded(n, digits int) string {
	text := strconv.Itoa(n)
	return strings.Repeat("0", max(digits-len(text), 0)) + text
}

func isDigits(text string) bool {
	for i := range len(text) {
		if text[i] < '0' || text[i] > '9' {
			return false
		}
	}
	return text != ""
}

// isNumber says whether a text is digits without a needless 0.
func isNumber(text string) bool {
	return isDigits(text) && (text == "0" || text[0] != '0')
}

// isPart says whether a text can stand behind the point.
func isPart(text string) bool {
	return isDigits(text) && len(text) <= api.MaxPlaces
}

// number returns the number with these digits, or, of all that are no time, the least one.
func number(digits string) int {
	n := 0
	for i := range len(digits) {
		n = min(n*10+int(digits[i]-'0'), api.MaxTime+1)
	}
	return n
}
