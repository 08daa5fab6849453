package nego

import (
	"bytes"
	"slices"

	"fairlead/api"
	"fairlead/number"
)

// Rule is what this end allows of the options of a type.
type Rule struct {
	Type, Len, How, Lo, Hi int
	Want                   []byte
	Need                   bool
}

// What a rule allows: how it looks at an option's data.
const (
	Any   = iota + 1 // Len bytes, or any number of them
	Range            // a number from Lo to Hi
	Exact            // Want
	Bits             // a number of no other bits than those of Hi
)

const maxNumber = 4 // bytes of a number

// Judge is the code of the answer to a request for the options l, and the
// answer's options. With rejects, it offers nothing.
func Judge(rules []Rule, l []api.Option, rejects bool) (int, []api.Option) {
	if rejected := refused(rules, l, rejects); len(rejected) > 0 {
		return api.ConfRej, rejected
	}
	if rejects {
		return api.ConfAck, copies(l)
	}
	offers := append(counters(rules, l), missing(rules, l)...)
	if len(offers) > 0 {
		return api.ConfNak, offers
	}
	return api.ConfAck, copies(l)
}

// refused is the options for which there is nothing but a reject.
func refused(rules []Rule, l []api.Option, rejects bool) []api.Option {
	var rejected []api.Option
	for i, o := range l {
		rule := ruleFor(rules, o.Type)
		_, offers := rule.offer(o.Data)
		if find(l, o.Type) < i || !rule.fits(o.Data) && (rejects || !offers) {
			rejected = append(rejected, copied(o))
		}
	}
	return rejected
}

// counters is what the rules offer in place of the options that don't fit.
func counters(rules []Rule, l []api.Option) []api.Option {
	var offers []api.Option
	for _, o := range l {
		rule := ruleFor(rules, o.Type)
		if data, ok := rule.offer(o.Data); ok && !rule.fits(o.Data) {
			offers = append(offers, api.Option{Type: o.Type, Data: data})
		}
	}
	return offers
}

// missing is what the rules offer that need an option of which l has none.
func missing(rules []Rule, l []api.Option) []api.Option {
	var offers []api.Option
	for i, rule := range rules {
		if !rule.Need || findRule(rules, rule.Type) < i || find(l, rule.Type) >= 0 {
			continue
		}
		if data, ok := rule.offer(nil); ok {
			offers = append(offers, api.Option{Type: rule.Type, Data: data})
		}
	}
	return offers
}

// Naked is the options of a request, changed by those of a Configure-Nak.
func Naked(rules []Rule, ask, nak []api.Option) []api.Option {
	l := copies(ask)
	for i, o := range l {
		at := find(nak, o.Type)
		if at < 0 {
			continue
		}
		if data, ok := ruleFor(rules, o.Type).heed(nak[at].Data); ok {
			l[i].Data = data
		}
	}
	return l
}

// Left is the options of a request without those that are rejected and that it
// can do without.
func Left(rules []Rule, ask, rej []api.Option) []api.Option {
	var l []api.Option
	for _, o := range ask {
		if !has(rej, o) || ruleFor(rules, o.Type).Need {
			l = append(l, copied(o))
		}
	}
	return l
}

// ruleFor is the rule for a type. Where there is none, it is one that nothing
// fits and that offers nothing.
func ruleFor(rules []Rule, kind int) Rule {
	if i := findRule(rules, kind); i >= 0 {
		return rules[i]
	}
	return Rule{}
}

func findRule(rules []Rule, kind int) int {
	return slices.IndexFunc(rules, func(r Rule) bool { return r.Type == kind })
}

// fits tells whether the rule allows the data.
func (r Rule) fits(data []byte) bool {
	switch r.How {
	case Any:
		return r.Len < 0 || len(data) == r.Len
	case Exact:
		return bytes.Equal(data, r.Want)
	case Range, Bits:
		return r.holds(data) && r.near(number.Of(data)) == number.Of(data)
	}
	return false
}

// offer is what the rule would have in place of the data, and whether there is
// any such thing.
func (r Rule) offer(data []byte) ([]byte, bool) {
	offered := r.Want
	switch r.How {
	case Range, Bits:
		if !r.counts() {
			return nil, false
		}
		n := r.Hi
		if r.holds(data) {
			n = r.near(number.Of(data))
		}
		offered = number.Bytes(n, r.Len)
		fallthrough
	case Exact:
		return bytes.Clone(offered), true
	}
	return nil, false
}

// heed is what the rule makes of the data that the peer would have, and whether
// it makes anything of it.
func (r Rule) heed(data []byte) ([]byte, bool) {
	switch r.How {
	case Any:
		return bytes.Clone(data), true
	case Range, Bits:
		if r.holds(data) {
			return number.Bytes(r.near(number.Of(data)), r.Len), true
		}
	}
	return nil, false
}

// counts tells whether the rule's length is one that a number may have.
func (r Rule) counts() bool { return r.Len >= 1 && r.Len <= maxNumber }

// holds tells whether the data is a number as long as the rule's.
func (r Rule) holds(data []byte) bool { return r.counts() && len(data) == r.Len }

// near is the number that the rule allows in place of n.
func (r Rule) near(n int) int {
	if r.How == Bits {
		return n & r.Hi
	}
	return min(max(n, r.Lo), r.Hi)
}
