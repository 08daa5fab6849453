// Package fault wraps the errors' numbers on their way through the functions of
// a layer, and finds them again: what frame, chap, packet, nego and auth have in
// common.
package fault

import (
	"errors"

	"fairlead/api"
)

// Dropped is what errors.Is finds in each reason for which a packet is dropped.
var Dropped = errors.New("dropped")

// drop is Dropped, and why.
type drop struct {
	layer  string
	reason api.Errno
}

func (d *drop) Error() string   { return d.layer + ": " + Dropped.Error() + ": " + d.reason.Error() }
func (d *drop) Unwrap() []error { return []error{Dropped, d.reason} }

// Of is e as an error of the layer.
func Of(layer string, e api.Errno) error { return &api.Fault{Layer: layer, E: e} }

// Drop is e as the reason for which the layer drops a packet.
func Drop(layer string, e api.Errno) error { return &drop{layer, e} }

// Number is what the fault in err tells, or OK where there is none.
func Number(err error) api.Errno {
	var f *api.Fault
	if errors.As(err, &f) {
		return f.E
	}
	return api.OK
}
