// Package fault wraps the errors' numbers on their way through the functions of
// a layer, and finds them again: what frame, chap and packet have in common.
package fault

import (
	"errors"

	"fairlead/api"
)

// Of is e as an error of the layer.
func Of(layer string, e api.Errno) error { return &api.Fault{Layer: layer, E: e} }

// Number is what the fault in err tells, or OK where there is none.
func Number(err error) api.Errno {
	var f *api.Fault
	if errors.As(err, &f) {
		return f.E
	}
	return api.OK
}
