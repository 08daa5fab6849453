package lcp

import (
	"fairlead/api"
	"fairlead/chap"
)

const (
	mostTicks     = 1000 // and tries
	leastFragment = 16
)

// Check is what is wrong with a configuration, if anything is.
func Check(c api.Config) api.Errno {
	if len(c.Name) > api.MaxName {
		return api.ErrLong
	}
	if _, err := chap.Hash(c.Secret); err != api.OK {
		return err
	}
	if !within(c) || !consistent(c) {
		return api.ErrArg
	}
	return api.OK
}

// within tells whether each number of a configuration is one that it may be.
func within(c api.Config) bool {
	return isFrom(c.Mru, leastMru, api.MaxInfo) &&
		(c.Mrru == 0 || isFrom(c.Mrru, leastMru, api.MaxInfo)) &&
		(c.Bits == 0 || isStrength(c.Bits)) &&
		isFrom(c.Timeout, 1, mostTicks) &&
		isFrom(c.Tries, 1, mostTicks) &&
		(c.Fragment == 0 || isFrom(c.Fragment, leastFragment, api.MaxInfo))
}

func isFrom(n, least, most int) bool { return n >= least && n <= most }

func isStrength(bits int) bool {
	switch bits {
	case 40, 56, 128:
		return true
	}
	return false
}

// consistent tells whether there is all that something else in a configuration
// needs: multilink for fragments, and a cipher for what is asked of it.
func consistent(c api.Config) bool {
	ciphered := c.Must || c.Stateless || c.Symbol
	return (c.Fragment == 0 || c.Mrru != 0) && (!ciphered || c.Bits != 0)
}
