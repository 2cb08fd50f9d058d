package box

import "headend/api"

// firstFault returns the first one of faults, in the order in which a chapter lists them.
func firstFault(faults ...api.Fault) api.Fault {
	for _, fault := range faults {
		if fault != api.OK {
			return fault
		}
	}
	return api.OK
}

// faultIf returns a fault, if something is wrong.
func faultIf(wrong bool, fault api.Fault) api.Fault {
	if wrong {
		return fault
	}
	return api.OK
}

// checkEach validates that each number is one from least to most.
func checkEach(l []int, least, most int) api.Fault {
	for _, n := range l {
		if !within(n, least, most) {
			return api.ErrRange
		}
	}
	return api.OK
}

func within(n, least, most int) bool { return least <= n && n <= most }

func isTime(n int) bool { return within(n, -api.MaxTime, api.MaxTime) }

func isScale(n int) bool { return within(n, 1, api.MaxScale) }

func isLetter(b byte) bool { return 'a' <= b && b <= 'z' }

func isDigit(b byte) bool { return '0' <= b && b <= '9' }

func isName(name string) bool {
	for i := range len(name) {
		if !isLetter(name[i]) && (i == 0 || !isDigit(name[i]) && name[i] != '-') {
			return false
		}
	}
	return within(len(name), 1, api.MaxName)
}
