package sample

import (
	"headend/api"
	"headend/box"
)

func within(n, least, most int) bool { return least <= n && n <= most }

func isTime(n int) bool { return within(n, -api.MaxTime, api.MaxTime) }

func checkParcel(p api.Parcel) api.Fault {
	if fault := box.CheckSamples(p.Samples); fault != api.OK {
		return fault
	}
	if !within(p.Scale, 1, api.MaxScale) {
		return api.ErrRange
	}
	return api.OK
}

// checked returns samples that were made, or what is wrong with them.
func checked(l []api.Sample) ([]api.Sample, api.Fault) {
	if fault := box.CheckSamples(l); fault != api.OK {
		return nil, fault
	}
	return l, api.OK
}
