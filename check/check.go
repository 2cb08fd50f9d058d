// Package check has what all packages ask of their arguments: which numbers are times and scales, which texts are names and words, and which one of several faults is returned.
package check

import "headend/api"

// First returns the first one of faults, in the order in which a chapter lists them.
func First(faults ...api.Fault) api.Fault {
	for _, fault := range faults {
		if fault != api.OK {
			return fault
		}
	}
	return api.OK
}

// Each returns the fault of the first one of elements that has one.
func Each[E any](l []E, examine func(i int, e E) api.Fault) api.Fault {
	for i, e := range l {
		if fault := examine(i, e); fault != api.OK {
			return fault
		}
	}
	return api.OK
}

// If returns a fault, if something is wrong.
func If(wrong bool, fault api.Fault) api.Fault {
	if wrong {
		return fault
	}
	return api.OK
}

// Within says whether n is a number from least to most.
func Within(n, least, most int) bool { return least <= n && n <= most }

// IsTime says whether n is a time.
func IsTime(n int) bool { return Within(n, -api.MaxTime, api.MaxTime) }

// IsScale says whether n is a scale.
func IsScale(n int) bool { return Within(n, 1, api.MaxScale) }

// IsLetter says whether a byte is one of a to z.
func IsLetter(b byte) bool { return 'a' <= b && b <= 'z' }

// IsDigit says whether a byte is one of 0 to 9.
func IsDigit(b byte) bool { return '0' <= b && b <= '9' }

// IsName says whether a text is a name.
func IsName(name string) bool {
	for i := range len(name) {
		if !IsLetter(name[i]) && (i == 0 || !IsDigit(name[i]) && name[i] != '-') {
			return false
		}
	}
	return Within(len(name), 1, api.MaxName)
}

// IsWord says whether a text is a row of bytes that can be seen, from 33 to 126, at least one.
func IsWord(text string) bool {
	for i := range len(text) {
		if !Within(int(text[i]), 33, 126) {
			return false
		}
	}
	return text != ""
}
