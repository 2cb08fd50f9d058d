package box

import (
	"headend/api"
	"headend/check"
)

// checkEach validates that each number is one from least to most.
func checkEach(l []int, least, most int) api.Fault {
	for _, n := range l {
		if !check.Within(n, least, most) {
			return api.ErrRange
		}
	}
	return api.OK
}
