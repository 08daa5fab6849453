package lcp

import (
	"fairlead/api"
	"fairlead/nego"
	"fairlead/number"
)

// The types of the options.
const (
	kindMru   = 1
	kindAccm  = 2
	kindAuth  = 3
	kindMagic = 5
	kindPfc   = 7
	kindAcfc  = 8
	kindMrru  = 17
	kindShort = 18
)

// What counts where no option states it.
const (
	usualMru  = 1500
	usualAccm = 0xffffffff
)

const (
	leastMru = 64
	msChap   = 0xc22381 // the authentication protocol, and its algorithm
)

// size is the bytes of an option's data.
func size(kind int) int {
	switch kind {
	case kindMru, kindMrru:
		return 2
	case kindAuth:
		return 3
	case kindAccm, kindMagic:
		return 4
	}
	return 0
}

func option(kind, n int) api.Option {
	return api.Option{Type: kind, Data: number.Bytes(n, size(kind))}
}

// Ask is the options that an end with this configuration asks for.
func Ask(c api.Config, magic uint32) []api.Option {
	var l []api.Option
	ask := func(wanted bool, kind, n int) {
		if wanted {
			l = append(l, option(kind, n))
		}
	}
	ask(c.Mru != usualMru, kindMru, c.Mru)
	ask(c.Accm != usualAccm, kindAccm, int(c.Accm))
	ask(c.Server, kindAuth, msChap)
	ask(magic != 0, kindMagic, int(magic))
	ask(c.Pfc, kindPfc, 0)
	ask(c.Acfc, kindAcfc, 0)
	ask(c.Mrru != 0, kindMrru, c.Mrru)
	ask(c.Short && c.Mrru != 0, kindShort, 0)
	return l
}

// Rules is what an end with this configuration allows the other one to ask for.
func Rules(c api.Config) []nego.Rule {
	var rules []nego.Rule
	allow := func(wanted bool, kind int, rule nego.Rule) {
		if wanted {
			rule.Type, rule.Len = kind, size(kind)
			rules = append(rules, rule)
		}
	}
	free := nego.Rule{How: nego.Any}
	unit := nego.Rule{How: nego.Range, Lo: leastMru, Hi: usualMru}
	proof := nego.Rule{How: nego.Exact, Want: option(kindAuth, msChap).Data, Need: true}
	allow(true, kindMru, unit)
	allow(true, kindAccm, free)
	allow(!c.Server, kindAuth, proof)
	allow(true, kindMagic, free)
	allow(c.Pfc, kindPfc, free)
	allow(c.Acfc, kindAcfc, free)
	allow(c.Mrru != 0, kindMrru, unit)
	allow(c.Mrru != 0, kindShort, free)
	return rules
}

// Read is the values that options state. Options of another size state nothing.
func Read(l []api.Option) Values {
	v := Values{Mru: usualMru, Accm: usualAccm}
	for _, o := range l {
		if len(o.Data) == size(o.Type) {
			v = stated(v, o.Type, number.Of(o.Data))
		}
	}
	return v
}

// stated is the values with what an option of this type states by its number.
func stated(v Values, kind, n int) Values {
	switch kind {
	case kindMru:
		v.Mru = n
	case kindAccm:
		v.Accm = uint32(n)
	case kindAuth:
		v.Auth = v.Auth || n == msChap
	case kindMagic:
		v.Magic = uint32(n)
	case kindPfc:
		v.Pfc = true
	case kindAcfc:
		v.Acfc = true
	case kindMrru:
		v.Mrru = n
	case kindShort:
		v.Short = true
	}
	return v
}
