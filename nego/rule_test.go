package nego_test

import (
	"bytes"
	"fmt"
	"math"
	"math/rand/v2"
	"slices"
	"strings"
	"testing"

	"fairlead/api"
	"fairlead/nego"
)

func wantJudged(t *testing.T, what string, rules []nego.Rule, l []api.Option, rejects bool, code int, want []api.Option) {
	t.Helper()
	gotCode, got := nego.Judge(rules, l, rejects)
	if gotCode != code || toldOptions(got) != toldOptions(want) {
		t.Errorf("%s: Judge(%s, %v): %d %s, want %d %s", what, toldOptions(l), rejects, gotCode, toldOptions(got), code, toldOptions(want))
	}
}

// P13.1: the chapter's examples.
func TestExamplesOfTheChapter(t *testing.T) {
	long := opt(1, 7, 0xd0)
	wantJudged(t, "P13.1", rules(), list(opt(1, 5, 0xdc)), false, api.ConfAck, list(opt(1, 5, 0xdc)))
	wantJudged(t, "P13.1", rules(), list(long), false, api.ConfNak, list(opt(1, 5, 0xdc)))
	wantJudged(t, "P13.1", rules(), list(opt(1, 5, 0xdc), opt(9)), false, api.ConfRej, list(opt(9)))
	wantJudged(t, "P13.1", rules(), list(long), true, api.ConfRej, list(long))
}

// P13.1: the numbers of the kinds, which others pass on.
func TestKinds(t *testing.T) {
	if got := []int{nego.Any, nego.Range, nego.Exact, nego.Bits}; !slices.Equal(got, []int{1, 2, 3, 4}) {
		t.Errorf("P13.1: the kinds are %v", got)
	}
}

// P13.1: each line of the table by hand: one option, and what is said to it.
func TestJudgeOneOption(t *testing.T) {
	none := list() // no offer: the option is rejected
	for _, c := range []struct {
		what  string
		rule  nego.Rule
		data  []byte
		fits  bool
		offer []api.Option
	}{
		{"Any, as long", nego.Rule{Type: 3, How: nego.Any, Len: 2}, []byte{1, 2}, true, none},
		{"Any, shorter", nego.Rule{Type: 3, How: nego.Any, Len: 2}, []byte{1}, false, none},
		{"Any, longer", nego.Rule{Type: 3, How: nego.Any, Len: 2}, []byte{1, 2, 3}, false, none},
		{"Any of 0", nego.Rule{Type: 3, How: nego.Any}, nil, true, none},
		{"Any of 0, longer", nego.Rule{Type: 3, How: nego.Any}, []byte{0}, false, none},
		{"Any of -1", nego.Rule{Type: 3, How: nego.Any, Len: -1}, nil, true, none},
		{"Any of -9", nego.Rule{Type: 3, How: nego.Any, Len: -9}, []byte("any data"), true, none},
		{"Any of 9", nego.Rule{Type: 3, How: nego.Any, Len: 9}, []byte("123456789"), true, none},
		{"Any, with all else", nego.Rule{Type: 3, How: nego.Any, Len: 1, Lo: 2, Hi: 4, Want: []byte{3}}, []byte{9}, true, none},
		{"Range, below", nego.Rule{Type: 3, How: nego.Range, Len: 1, Lo: 10, Hi: 20}, []byte{9}, false, list(opt(3, 10))},
		{"Range, at Lo", nego.Rule{Type: 3, How: nego.Range, Len: 1, Lo: 10, Hi: 20}, []byte{10}, true, none},
		{"Range, within", nego.Rule{Type: 3, How: nego.Range, Len: 1, Lo: 10, Hi: 20}, []byte{15}, true, none},
		{"Range, at Hi", nego.Rule{Type: 3, How: nego.Range, Len: 1, Lo: 10, Hi: 20}, []byte{20}, true, none},
		{"Range, above", nego.Rule{Type: 3, How: nego.Range, Len: 1, Lo: 10, Hi: 20}, []byte{21}, false, list(opt(3, 20))},
		{"Range, far below", nego.Rule{Type: 3, How: nego.Range, Len: 1, Lo: 10, Hi: 20}, []byte{0}, false, list(opt(3, 10))},
		{"Range, far above", nego.Rule{Type: 3, How: nego.Range, Len: 1, Lo: 10, Hi: 20}, []byte{255}, false, list(opt(3, 20))},
		{"Range, no data", nego.Rule{Type: 3, How: nego.Range, Len: 1, Lo: 10, Hi: 20}, nil, false, list(opt(3, 20))},
		{"Range, longer", nego.Rule{Type: 3, How: nego.Range, Len: 1, Lo: 10, Hi: 20}, []byte{0, 15}, false, list(opt(3, 20))},
		{"Range of 2", nego.Rule{Type: 3, How: nego.Range, Len: 2, Lo: 0x0140, Hi: 0x05dc}, []byte{1, 0x3f}, false, list(opt(3, 1, 0x40))},
		{"Range of 2, shorter", nego.Rule{Type: 3, How: nego.Range, Len: 2, Lo: 0x0140, Hi: 0x05dc}, []byte{2}, false, list(opt(3, 5, 0xdc))},
		{"Range of 3", nego.Rule{Type: 3, How: nego.Range, Len: 3, Lo: 1, Hi: 0x123456}, []byte{0x12, 0x34, 0x57}, false, list(opt(3, 0x12, 0x34, 0x56))},
		{"Range of 4", nego.Rule{Type: 3, How: nego.Range, Len: 4, Lo: 0x80000000, Hi: 0xfffffffe}, []byte{255, 255, 255, 255}, false, list(opt(3, 255, 255, 255, 254))},
		{"Range of 4, high", nego.Rule{Type: 3, How: nego.Range, Len: 4, Lo: 0x80000000, Hi: 0xffffffff}, []byte{255, 255, 255, 255}, true, none},
		{"Range of 4, below", nego.Rule{Type: 3, How: nego.Range, Len: 4, Lo: 0x80000000, Hi: 0xffffffff}, []byte{127, 255, 255, 255}, false, list(opt(3, 128, 0, 0, 0))},
		{"Range of one number", nego.Rule{Type: 3, How: nego.Range, Len: 1, Lo: 7, Hi: 7}, []byte{8}, false, list(opt(3, 7))},
		{"Range of 0", nego.Rule{Type: 3, How: nego.Range}, nil, false, none},
		{"Range of 5", nego.Rule{Type: 3, How: nego.Range, Len: 5, Hi: 9}, []byte{0, 0, 0, 0, 1}, false, none},
		{"Range of -1", nego.Rule{Type: 3, How: nego.Range, Len: -1, Hi: 9}, []byte{1}, false, none},
		{"Exact", nego.Rule{Type: 3, How: nego.Exact, Want: []byte{1, 2, 3}}, []byte{1, 2, 3}, true, none},
		{"Exact, other", nego.Rule{Type: 3, How: nego.Exact, Want: []byte{1, 2, 3}}, []byte{1, 2, 4}, false, list(opt(3, 1, 2, 3))},
		{"Exact, shorter", nego.Rule{Type: 3, How: nego.Exact, Want: []byte{1, 2, 3}}, []byte{1, 2}, false, list(opt(3, 1, 2, 3))},
		{"Exact, longer", nego.Rule{Type: 3, How: nego.Exact, Want: []byte{1, 2, 3}}, []byte{1, 2, 3, 0}, false, list(opt(3, 1, 2, 3))},
		{"Exact, of another Len", nego.Rule{Type: 3, How: nego.Exact, Len: 9, Want: []byte{1}}, []byte{1}, true, none},
		{"Exact, nothing", nego.Rule{Type: 3, How: nego.Exact}, nil, true, none},
		{"Exact, something for nothing", nego.Rule{Type: 3, How: nego.Exact}, []byte{0}, false, list(opt(3))},
		{"Bits, within", nego.Rule{Type: 3, How: nego.Bits, Len: 2, Hi: 0x8101}, []byte{0x80, 1}, true, none},
		{"Bits, all", nego.Rule{Type: 3, How: nego.Bits, Len: 2, Hi: 0x8101}, []byte{0x81, 1}, true, none},
		{"Bits, none", nego.Rule{Type: 3, How: nego.Bits, Len: 2, Hi: 0x8101}, []byte{0, 0}, true, none},
		{"Bits, one beyond", nego.Rule{Type: 3, How: nego.Bits, Len: 2, Hi: 0x8101}, []byte{0x81, 3}, false, list(opt(3, 0x81, 1))},
		{"Bits, others alone", nego.Rule{Type: 3, How: nego.Bits, Len: 2, Hi: 0x8101}, []byte{0x10, 0x10}, false, list(opt(3, 0, 0))},
		{"Bits, a smaller number", nego.Rule{Type: 3, How: nego.Bits, Len: 1, Lo: 2, Hi: 8}, []byte{1}, false, list(opt(3, 0))},
		{"Bits, below Lo", nego.Rule{Type: 3, How: nego.Bits, Len: 1, Lo: 9, Hi: 15}, []byte{1}, true, none},
		{"Bits, shorter", nego.Rule{Type: 3, How: nego.Bits, Len: 2, Hi: 0x8101}, []byte{1}, false, list(opt(3, 0x81, 1))},
		{"Bits, longer", nego.Rule{Type: 3, How: nego.Bits, Len: 2, Hi: 0x8101}, []byte{0, 0, 1}, false, list(opt(3, 0x81, 1))},
		{"Bits of 4", nego.Rule{Type: 3, How: nego.Bits, Len: 4, Hi: 0x81000041}, []byte{255, 255, 255, 255}, false, list(opt(3, 0x81, 0, 0, 0x41))},
		{"Bits of 0", nego.Rule{Type: 3, How: nego.Bits}, nil, false, none},
		{"Bits of 5", nego.Rule{Type: 3, How: nego.Bits, Len: 5, Hi: 255}, []byte{0, 0, 0, 0, 0}, false, none},
		{"no kind", nego.Rule{Type: 3, Len: 1, Hi: 255, Want: []byte{1}}, []byte{1}, false, none},
		{"kind 5", nego.Rule{Type: 3, How: 5, Len: 1, Hi: 255, Want: []byte{1}}, []byte{1}, false, none},
		{"kind -1", nego.Rule{Type: 3, How: -1, Len: -1, Hi: 255, Want: []byte{1}}, []byte{1}, false, none},
	} {
		one, l := []nego.Rule{c.rule}, list(api.Option{Type: 3, Data: c.data})
		code, answer, rejected := api.ConfNak, c.offer, api.ConfRej
		switch {
		case c.fits:
			code, answer, rejected = api.ConfAck, l, api.ConfAck
		case len(c.offer) == 0:
			code, answer = api.ConfRej, l
		}
		wantJudged(t, "P13.1: "+c.what, one, l, false, code, answer)
		wantJudged(t, "P13.1: "+c.what, one, l, true, rejected, l)
	}
}

// P13.1: several options and several rules.
func TestJudgeSeveral(t *testing.T) {
	l := []nego.Rule{
		{Type: 1, How: nego.Range, Len: 1, Lo: 10, Hi: 20},
		{Type: 2, How: nego.Any, Len: 1},
		{Type: 3, How: nego.Exact, Want: []byte{7, 8}, Need: true},
		{Type: 1, How: nego.Any, Len: -1, Need: true}, // the first rule for 1 is another
		{Type: 4, How: nego.Bits, Len: 1, Hi: 6, Need: true},
		{Type: 5, How: nego.Range, Len: 2, Lo: 3, Hi: 0x104, Need: true},
		{Type: 6, How: nego.Any, Len: 1, Need: true},
		{Type: 7, How: nego.Range, Len: 5, Hi: 9, Need: true},
		{Type: 8, How: 9, Len: 1, Hi: 9, Need: true},
		{Type: 3, How: nego.Exact, Want: []byte{9}, Need: true},
		{Type: 4, How: nego.Any, Len: 1},
		{Type: 9, How: nego.Any, Len: 1},
		{Type: 9, How: nego.Exact, Want: []byte{1}, Need: true},
	}
	needed := list(opt(3, 7, 8), opt(4, 2), opt(5, 1, 0))
	for _, c := range []struct {
		what    string
		l       []api.Option
		rejects bool
		code    int
		want    []api.Option
	}{
		{"all there", needed, false, api.ConfAck, needed},
		{"all there, with rejects", needed, true, api.ConfAck, needed},
		{"more than is needed", append(list(opt(2, 1), opt(1, 15)), needed...), false, api.ConfAck, append(list(opt(2, 1), opt(1, 15)), needed...)},
		{"none of the needed ones", nil, false, api.ConfNak, list(opt(3, 7, 8), opt(4, 6), opt(5, 1, 4))},
		{"none of them, with rejects", nil, true, api.ConfAck, nil},
		{"one of them is missing", list(opt(5, 1, 0), opt(3, 7, 8)), false, api.ConfNak, list(opt(4, 6))},
		{"one of them is missing, with rejects", list(opt(5, 1, 0), opt(3, 7, 8)), true, api.ConfAck, list(opt(5, 1, 0), opt(3, 7, 8))},
		{"one doesn't fit and two are missing", list(opt(4, 9)), false, api.ConfNak, list(opt(4, 0), opt(3, 7, 8), opt(5, 1, 4))},
		{"what doesn't fit comes in the order of the options", list(opt(5, 2, 0), opt(2, 1), opt(1, 21), opt(3)), false, api.ConfNak, list(opt(5, 1, 4), opt(1, 20), opt(3, 7, 8), opt(4, 6))},
		{"one doesn't fit, with rejects", list(opt(5, 2, 0), opt(2, 1)), true, api.ConfRej, list(opt(5, 2, 0))},
		{"some don't fit, with rejects", list(opt(5, 2, 0), opt(2, 1), opt(1, 21)), true, api.ConfRej, list(opt(5, 2, 0), opt(1, 21))},
		{"no rule", list(opt(10, 1), opt(3, 7, 8)), false, api.ConfRej, list(opt(10, 1))},
		{"no rule, in their order", list(opt(12), opt(3, 7, 8), opt(11, 4), opt(0)), false, api.ConfRej, list(opt(12), opt(11, 4), opt(0))},
		{"rejected ahead of offers", list(opt(1, 21), opt(10), opt(4, 9)), false, api.ConfRej, list(opt(10))},
		{"nothing to offer ahead of offers", list(opt(1, 21), opt(2), opt(4, 9)), false, api.ConfRej, list(opt(2))},
		{"rejects, with both", list(opt(1, 21), opt(10), opt(2, 5)), true, api.ConfRej, list(opt(1, 21), opt(10))},
		{"a type twice", append(list(opt(2, 1), opt(2, 1)), needed...), false, api.ConfRej, list(opt(2, 1))},
		{"a type twice, the second one fits", list(opt(1, 21), opt(1, 15)), false, api.ConfRej, list(opt(1, 15))},
		{"a type three times", list(opt(1, 11), opt(1, 12), opt(2, 0), opt(1, 13)), false, api.ConfRej, list(opt(1, 12), opt(1, 13))},
		{"a type without rule twice", list(opt(10, 1), opt(10, 2)), false, api.ConfRej, list(opt(10, 1), opt(10, 2))},
		{"a type twice, with rejects", list(opt(1, 11), opt(1, 12), opt(4, 8)), true, api.ConfRej, list(opt(1, 12), opt(4, 8))},
		{"the first rule for a type counts", list(opt(9, 1), opt(1, 1)), false, api.ConfNak, list(opt(1, 10), opt(3, 7, 8), opt(4, 6), opt(5, 1, 4))},
		{"a needed one without an offer", append(list(opt(7, 0, 0, 0, 0, 1), opt(8, 1)), needed...), false, api.ConfRej, list(opt(7, 0, 0, 0, 0, 1), opt(8, 1))},
	} {
		wantJudged(t, "P13.1: "+c.what, l, c.l, c.rejects, c.code, c.want)
	}
	wantJudged(t, "P13.1: no rules", nil, nil, false, api.ConfAck, nil)
	wantJudged(t, "P13.1: no rules", nil, list(opt(1)), false, api.ConfRej, list(opt(1)))
	wantJudged(t, "P13.1: nothing is needed", []nego.Rule{{Type: 3, How: nego.Exact, Need: true}}, nil, false, api.ConfNak, list(opt(3)))
	wantJudged(t, "P13.1: types that no byte holds", []nego.Rule{{Type: -1, How: nego.Any, Len: 1}, {Type: 256, How: nego.Bits, Len: 1, Need: true}},
		list(opt(-1, 9)), false, api.ConfNak, list(opt(256, 0)))
}

// allRules are rules of each kind and of each length, with the edges of Lo and Hi.
func allRules() []nego.Rule {
	var l []nego.Rule
	for _, how := range []int{math.MinInt, -1, 0, nego.Any, nego.Range, nego.Exact, nego.Bits, 5, 6, math.MaxInt} {
		for _, size := range []int{math.MinInt, -2, -1, 0, 1, 2, 3, 4, 5, 6, 8, 9, 256, math.MaxInt} {
			most := 1<<(8*min(max(size, 0), 4)) - 1
			for _, ends := range [][2]int{{0, 0}, {0, most}, {most, most}, {most / 3, most / 2}, {0, most / 5}, {most / 5, most}, {most / 2, most - most/3}} {
				want := []byte{1, 2, 3, 4, 5, 6}[:min(max(size, 0), 6)]
				l = append(l, nego.Rule{Type: 3, Len: size, How: how, Lo: ends[0], Hi: ends[1], Want: want})
			}
		}
	}
	return l
}

// datasFor are data of all lengths to 6 with numbers around the ends of a rule.
func datasFor(r nego.Rule) [][]byte {
	l := [][]byte{r.Want, append(bytes.Clone(r.Want), 0), {0, 0, 0, 0, 0, 0, 0, 0}, {255, 255, 255, 255, 255, 255, 255, 255, 255}}
	for size := range 7 {
		for _, n := range []int{0, 1, r.Lo - 1, r.Lo, r.Lo + 1, (r.Lo + r.Hi) / 2, r.Hi - 1, r.Hi, r.Hi + 1, -1, 0x55555555, 0x2a5c} {
			l = append(l, modelBytes(uint64(n), size))
		}
	}
	return l
}

// P13.1 and P13.2: each kind with each length, and data on both sides of all edges.
func TestEachRule(t *testing.T) {
	for _, r := range allRules() {
		for _, need := range []bool{false, true} {
			r.Need = need
			one := []nego.Rule{r}
			for _, data := range append(datasFor(r), nil) {
				l := list(api.Option{Type: 3, Data: data})
				for _, rejects := range []bool{false, true} {
					code, want := modelJudge(one, l, rejects)
					wantJudged(t, "P13.1: rule "+toldRule(r), one, l, rejects, code, want)
				}
				ask := list(opt(3, 9, 9), opt(4, 8))
				wantOptions(t, "P13.2: Naked by "+toldOptions(l)+", rule "+toldRule(r), nego.Naked(one, ask, l), modelNaked(one, ask, l))
			}
			for _, rejects := range []bool{false, true} {
				code, want := modelJudge(one, nil, rejects)
				wantJudged(t, "P13.1: rule "+toldRule(r), one, nil, rejects, code, want)
			}
			ask, rej := list(opt(3, 9), opt(4)), list(opt(3, 9), opt(4))
			wantOptions(t, "P13.2: Left, rule "+toldRule(r), nego.Left(one, ask, rej), modelLeft(one, ask, rej))
		}
	}
}

// P13.2: Naked by hand.
func TestNaked(t *testing.T) {
	l := []nego.Rule{
		{Type: 1, How: nego.Range, Len: 2, Lo: 64, Hi: 1500},
		{Type: 2, How: nego.Any, Len: 4},
		{Type: 3, How: nego.Exact, Want: []byte{7}, Need: true},
		{Type: 4, How: nego.Bits, Len: 4, Hi: 0x01000041, Need: true},
		{Type: 5, How: 9, Len: 1},
		{Type: 1, How: nego.Any, Len: -1},
		{Type: 6, How: nego.Range, Hi: 9},
	}
	ask := list(opt(1, 5, 0xdc), opt(2, 1, 2, 3, 4), opt(3, 7), opt(4, 0, 0, 0, 0x40), opt(5, 1), opt(6, 3), opt(7, 2))
	// with is ask with another option in place of the one of its type.
	with := func(o api.Option) []api.Option {
		c := slices.Clone(ask)
		c[o.Type-1] = o
		return c
	}
	for _, c := range []struct {
		what string
		nak  []api.Option
		want []api.Option
	}{
		{"no options", nil, ask},
		{"Range, within", list(opt(1, 4, 0)), with(opt(1, 4, 0))},
		{"Range, at Lo", list(opt(1, 0, 64)), with(opt(1, 0, 64))},
		{"Range, below Lo", list(opt(1, 0, 63)), with(opt(1, 0, 64))},
		{"Range, 0", list(opt(1, 0, 0)), with(opt(1, 0, 64))},
		{"Range, at Hi", list(opt(1, 5, 0xdc)), ask},
		{"Range, above Hi", list(opt(1, 5, 0xdd)), with(opt(1, 5, 0xdc))},
		{"Range, far above", list(opt(1, 255, 255)), with(opt(1, 5, 0xdc))},
		{"Range, shorter", list(opt(1, 70)), ask},
		{"Range, longer", list(opt(1, 0, 4, 0)), ask},
		{"Range, no data", list(opt(1)), ask},
		{"Range of no length", list(opt(6)), ask},
		{"Any", list(opt(2, 9, 8, 7, 6)), with(opt(2, 9, 8, 7, 6))},
		{"Any, shorter", list(opt(2, 9)), with(opt(2, 9))},
		{"Any, longer", list(opt(2, 1, 2, 3, 4, 5)), with(opt(2, 1, 2, 3, 4, 5))},
		{"Any, no data", list(opt(2)), with(opt(2))},
		{"Exact", list(opt(3, 9)), ask},
		{"Exact, no data", list(opt(3)), ask},
		{"Bits, within", list(opt(4, 1, 0, 0, 1)), with(opt(4, 1, 0, 0, 1))},
		{"Bits, beyond", list(opt(4, 255, 255, 255, 255)), with(opt(4, 1, 0, 0, 0x41))},
		{"Bits, none", list(opt(4, 0, 0, 0, 0)), with(opt(4, 0, 0, 0, 0))},
		{"Bits, shorter", list(opt(4, 0, 0, 1)), ask},
		{"Bits, longer", list(opt(4, 0, 0, 0, 0, 1)), ask},
		{"no kind", list(opt(5, 2)), ask},
		{"no rule", list(opt(7, 9)), ask},
		{"a type that was not asked for", list(opt(8, 1), opt(0)), ask},
		{"a type twice", list(opt(1, 4, 0), opt(1, 3, 0)), with(opt(1, 4, 0))},
		{"a type twice, the first one of another length", list(opt(1, 4), opt(1, 3, 0)), ask},
		{"all, in another order", list(opt(7, 1), opt(5, 5), opt(4, 0, 0, 0, 1), opt(3, 3), opt(2, 5, 5, 5, 5), opt(1, 2, 2)),
			list(opt(1, 2, 2), opt(2, 5, 5, 5, 5), opt(3, 7), opt(4, 0, 0, 0, 1), opt(5, 1), opt(6, 3), opt(7, 2))},
	} {
		wantOptions(t, "P13.2: "+c.what, nego.Naked(l, ask, c.nak), c.want)
	}
	twice := list(opt(1, 1, 1), opt(2), opt(1, 2, 2))
	wantOptions(t, "P13.2: a type twice in the request", nego.Naked(l, twice, list(opt(1, 4, 4))), list(opt(1, 4, 4), opt(2), opt(1, 4, 4)))
	wantOptions(t, "P13.2: no request", nego.Naked(l, nil, list(opt(1, 4, 4))), nil)
	wantOptions(t, "P13.2: no rules", nego.Naked(nil, ask, list(opt(1, 4, 4))), ask)
}

// P13.2: Left by hand.
func TestLeft(t *testing.T) {
	l := []nego.Rule{
		{Type: 1, How: nego.Range, Len: 2, Lo: 64, Hi: 1500},
		{Type: 2, How: nego.Any, Len: 1, Need: true},
		{Type: 3, How: nego.Exact, Want: []byte{7}},
		{Type: 1, How: nego.Any, Need: true}, // the first rule for 1 is another
		{Type: 2, How: nego.Any},
		{Type: 5, How: 9, Need: true},
	}
	ask := list(opt(1, 5, 0xdc), opt(2, 1), opt(3), opt(4, 4), opt(5, 5))
	for _, c := range []struct {
		what string
		rej  []api.Option
		want []api.Option
	}{
		{"no options", nil, ask},
		{"one", list(opt(1, 5, 0xdc)), list(opt(2, 1), opt(3), opt(4, 4), opt(5, 5))},
		{"one that is needed", list(opt(2, 1)), ask},
		{"one that is needed, of no kind", list(opt(5, 5)), ask},
		{"one without data", list(opt(3)), list(opt(1, 5, 0xdc), opt(2, 1), opt(4, 4), opt(5, 5))},
		{"one without rule", list(opt(4, 4)), list(opt(1, 5, 0xdc), opt(2, 1), opt(3), opt(5, 5))},
		{"other data", list(opt(1, 5, 0xdd), opt(3, 0), opt(4)), ask},
		{"the data of another type", list(opt(1, 4), opt(4, 5, 0xdc)), ask},
		{"all", ask, list(opt(2, 1), opt(5, 5))},
		{"all, in another order", list(opt(5, 5), opt(4, 4), opt(3), opt(2, 1), opt(1, 5, 0xdc)), list(opt(2, 1), opt(5, 5))},
		{"a type that was not asked for", list(opt(9), opt(1)), ask},
		{"a type twice, the second one is it", list(opt(4, 3), opt(4, 4)), list(opt(1, 5, 0xdc), opt(2, 1), opt(3), opt(5, 5))},
	} {
		wantOptions(t, "P13.2: "+c.what, nego.Left(l, ask, c.rej), c.want)
	}
	twice := list(opt(4, 1), opt(4, 2), opt(4, 1))
	wantOptions(t, "P13.2: a type twice in the request", nego.Left(l, twice, list(opt(4, 1))), list(opt(4, 2)))
	wantOptions(t, "P13.2: no request", nego.Left(l, nil, ask), nil)
	wantOptions(t, "P13.2: no rules", nego.Left(nil, ask, ask[:2]), ask[2:])
}

// anyRules draws rules for a few types, so that some come twice.
func anyRules(r *rand.Rand) []nego.Rule {
	var l []nego.Rule
	for range r.IntN(6) {
		size := []int{1, 1, 2, 2, 3, 4, 0, -1, 5}[r.IntN(9)]
		most := 1<<(8*min(max(size, 0), 4)) - 1
		lo, hi := r.IntN(most+1), r.IntN(most+1)
		l = append(l, nego.Rule{
			Type: r.IntN(5), Len: size, How: r.IntN(6), Lo: min(lo, hi), Hi: max(lo, hi),
			Want: anyData(r), Need: r.IntN(3) == 0,
		})
	}
	return l
}

func anyData(r *rand.Rand) []byte {
	b := make([]byte, []int{0, 1, 1, 2, 2, 3, 4, 5}[r.IntN(8)])
	for i := range b {
		b[i] = byte([]int{0, 1, 2, 128, 255, r.IntN(256)}[r.IntN(6)])
	}
	return b
}

func anyOptions(r *rand.Rand) []api.Option {
	var l []api.Option
	for range r.IntN(5) {
		l = append(l, opt(r.IntN(6), anyData(r)...))
	}
	return l
}

// mutated is some of these options, some of them with other data, in any order.
func mutated(r *rand.Rand, l []api.Option) []api.Option {
	c := slices.Clone(l)
	for i := range c {
		if r.IntN(3) == 0 {
			c[i].Data = anyData(r)
		}
	}
	r.Shuffle(len(c), func(i, j int) { c[i], c[j] = c[j], c[i] })
	return c[:r.IntN(len(c)+1)]
}

// P13.1 and P13.2: random rules and options against the words, with R4 and R5:
// what is handed in stays as it is, and what is handed out is new.
func TestAnyRules(t *testing.T) {
	r := rand.New(rand.NewPCG(13, 1))
	for range 30000 {
		l, ask := anyRules(r), anyOptions(r)
		answer := mutated(r, ask)
		rejects := r.IntN(2) == 0
		what := fmt.Sprintf("rules %s, %s and %s", toldRules(l), toldOptions(ask), toldOptions(answer))
		code, judged := modelJudge(l, ask, rejects)
		naked, left := modelNaked(l, ask, answer), modelLeft(l, ask, answer)
		judgedText, nakedText, leftText := toldOptions(judged), toldOptions(naked), toldOptions(left)

		in, inAsk, inAnswer := roomyRules(l), roomyOptions(ask), roomyOptions(answer)
		before := toldRules(in) + whole(inAsk) + whole(inAnswer)
		gotCode, a := nego.Judge(in, inAsk, rejects)
		b, c := nego.Naked(in, inAsk, inAnswer), nego.Left(in, inAsk, inAnswer)
		if toldRules(in)+whole(inAsk)+whole(inAnswer) != before {
			t.Fatalf("R4: %s: an argument changed", what)
		}
		for i := range in {
			scribble(in[i].Want)
		}
		scribbleOptions(inAsk)
		scribbleOptions(inAnswer)
		if gotCode != code || toldOptions(a) != judgedText {
			t.Fatalf("P13.1: %s: Judge (%v): %d %s, want %d %s", what, rejects, gotCode, toldOptions(a), code, judgedText)
		}
		if toldOptions(b) != nakedText || toldOptions(c) != leftText {
			t.Fatalf("P13.2: %s: Naked %s, Left %s, want %s, %s", what, toldOptions(b), toldOptions(c), nakedText, leftText)
		}
		wantApart(t, "R4: "+what, a)
		wantApart(t, "R4: "+what, b)
		wantApart(t, "R4: "+what, c)
	}
}

func toldRules(l []nego.Rule) string {
	var s strings.Builder
	for _, r := range l {
		s.WriteString(toldRule(r))
	}
	return s.String()
}

// wantApart wants options whose data share no memory, up to their capacity.
func wantApart(t *testing.T, what string, l []api.Option) {
	t.Helper()
	for i := range l {
		others := ""
		for j := range l {
			if j != i {
				others += fmt.Sprintf("%X ", l[j].Data[:cap(l[j].Data)])
			}
		}
		scribble(l[i].Data)
		for j := range l {
			if j != i {
				others = strings.Replace(others, fmt.Sprintf("%X ", l[j].Data[:cap(l[j].Data)]), "", 1)
			}
		}
		if others != "" {
			t.Errorf("%s: option %d shares memory with another", what, i)
		}
	}
}

// R1: Lo and Hi beyond what the length holds, and the wrong way round, end too.
func TestSenselessNumbers(t *testing.T) {
	numbers := []int{math.MinInt, -1 << 32, -1, 0, 1, 255, 256, 1 << 16, 1 << 32, 1<<32 + 1, math.MaxInt}
	for _, how := range []int{nego.Range, nego.Bits} {
		for size := range 6 {
			for _, lo := range numbers {
				for _, hi := range numbers {
					l := []nego.Rule{{Type: 1, Len: size, How: how, Lo: lo, Hi: hi, Need: true}}
					for _, o := range []api.Option{opt(1), opt(1, 1), opt(1, 255, 255), opt(1, 1, 2, 3), opt(1, 255, 255, 255, 255)} {
						nego.Judge(l, list(o), false)
						nego.Naked(l, list(o), list(o))
					}
					nego.Judge(l, nil, false)
				}
			}
		}
	}
}
