package sample

import (
	"headend/api"
	"headend/box"
	"headend/check"
)

func checkParcel(p api.Parcel) api.Fault {
	if fault := box.CheckSamples(p.Samples); fault != api.OK {
		return fault
	}
	if !check.IsScale(p.Scale) {
		return api.ErrRange
	}
	return api.OK
}

// checked returns samples that were made, or what is wrong with them.
func checked(l []api.Sample) ([]api.Sample, api.Fault) {
	if fault := box.CheckSamples(l); fault != api.OK {
		return nil, fault
	}
	return l, api.OK
}
