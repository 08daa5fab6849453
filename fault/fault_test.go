package fault_test

import (
	"errors"
	"fmt"
	"testing"

	"fairlead/api"
	"fairlead/fault"
)

// P4.1, P9.1 and P11.1: each number comes back from its fault, also with further errors about it.
func TestNumberOfAFault(t *testing.T) {
	for e := api.ErrArg; e <= api.ErrSyntax; e++ {
		err := fault.Of("layer", e)
		for range 3 {
			if got := fault.Number(err); got != e {
				t.Errorf("the number of %q is %d, want %d", err, got, e)
			}
			if !errors.Is(err, e) {
				t.Errorf("%q is no error %d", err, e)
			}
			err = fmt.Errorf("further: %w", err)
		}
	}
}

func TestNumberWithoutAFault(t *testing.T) {
	for _, err := range []error{nil, errors.New("layer: argument")} {
		if got := fault.Number(err); got != api.OK {
			t.Errorf("the number of %v is %d, want %d", err, got, api.OK)
		}
	}
}

func TestOfTellsTheLayer(t *testing.T) {
	if got := fault.Of("layer", api.ErrArg).Error(); got != "layer: argument" {
		t.Errorf("the fault tells %q", got)
	}
}

// P13.4 and P15.2: in the reason for which a packet is dropped both are found.
func TestDrop(t *testing.T) {
	for e := api.ErrArg; e <= api.ErrSyntax; e++ {
		err := fault.Drop("layer", e)
		for range 3 {
			if !errors.Is(err, fault.Dropped) || !errors.Is(err, e) {
				t.Errorf("%q: dropped %v, error %d %v", err, errors.Is(err, fault.Dropped), e, errors.Is(err, e))
			}
			if errors.Is(err, api.OK) || errors.Is(err, e%api.ErrSyntax+1) {
				t.Errorf("%q has another reason, too", err)
			}
			err = fmt.Errorf("further: %w", err)
		}
	}
	if got := fault.Drop("layer", api.ErrArg).Error(); got != "layer: dropped: argument" {
		t.Errorf("the reason tells %q", got)
	}
	for _, err := range []error{nil, fault.Of("layer", api.ErrArg), errors.New("layer: dropped: argument")} {
		if errors.Is(err, fault.Dropped) {
			t.Errorf("%v: dropped", err)
		}
	}
}
