package nego_test

import (
	"fmt"
	"math/rand/v2"
	"slices"
	"testing"

	"fairlead/api"
	"fairlead/nego"
)

// line is two negotiators and the packets between them.
type line struct {
	ends   [2]*nego.Nego
	to     [2][]api.Packet // what waits for each end
	passed int
}

func (x *line) take(from int, out nego.Out) {
	x.to[1-from] = append(x.to[1-from], out.Send...)
}

func (x *line) waiting() int { return len(x.to[0]) + len(x.to[1]) }

// pass hands the packet at a place of what waits for an end to it.
func (x *line) pass(end, at int) {
	p := x.to[end][at]
	x.to[end] = slices.Delete(slices.Clone(x.to[end]), at, at+1)
	x.take(end, x.ends[end].Input(p))
	x.passed++
}

func (x *line) opened() bool {
	return x.ends[0].State() == api.Opened && x.ends[1].State() == api.Opened
}

// openBoth opens both ends, the line up at both of them ahead of any packet.
func (x *line) openBoth(r *rand.Rand) {
	events := []int{api.Open, api.Up}
	for _, end := range r.Perm(2) {
		r.Shuffle(2, func(i, j int) { events[i], events[j] = events[j], events[i] })
		for _, event := range events {
			x.take(end, x.ends[end].Do(event))
		}
	}
}

// flow passes packets until none is left; in disorder any that waits may be next.
func (x *line) flow(r *rand.Rand, disorder bool) {
	for x.waiting() > 0 && x.passed < 1000 {
		end := r.IntN(2)
		if len(x.to[end]) == 0 {
			end = 1 - end
		}
		at := 0
		if disorder {
			at = r.IntN(len(x.to[end]))
		}
		x.pass(end, at)
	}
}

func newLine(t *testing.T, rules [2][]nego.Rule, ask [2][]api.Option) *line {
	t.Helper()
	x := &line{}
	for end := range 2 {
		x.ends[end] = newNego(t, rules[end], ask[end], 5, 3)
	}
	return x
}

// pair is what two ends may want, and what they come to.
type pair struct {
	what  string
	rules [2][]nego.Rule
	ask   [2][]api.Option
	mine  [2][]api.Option
}

func pairs() []pair {
	open := []nego.Rule{{Type: 1, How: nego.Any, Len: -1}, {Type: 2, How: nego.Any, Len: -1}, {Type: 3, How: nego.Any, Len: -1}}
	limits := []nego.Rule{
		{Type: 1, How: nego.Range, Len: 2, Lo: 64, Hi: 1500}, {Type: 2, How: nego.Bits, Len: 1, Hi: 0x41, Need: true},
		{Type: 3, How: nego.Exact, Want: []byte{7, 7}}, {Type: 4, How: nego.Any, Len: 1},
	}
	loose := slices.Clone(limits)
	loose[1].Need = false
	both := func(l []nego.Rule) [2][]nego.Rule { return [2][]nego.Rule{l, l} }
	lists := func(a, b []api.Option) [2][]api.Option { return [2][]api.Option{a, b} }
	return []pair{
		{"no rules, no options", both(nil), lists(nil, nil), lists(nil, nil)},
		{"all pass", both(open), lists(list(opt(1, 1), opt(3)), list(opt(2, 2, 2))), lists(list(opt(1, 1), opt(3)), list(opt(2, 2, 2)))},
		{"all pass, no options of one end", both(open), lists(list(opt(1, 1), opt(2), opt(3, 3)), nil), lists(list(opt(1, 1), opt(2), opt(3, 3)), nil)},
		{"all fit", both(limits), lists(list(opt(1, 5, 0xdc), opt(2, 0x41)), list(opt(2, 1), opt(3, 7, 7), opt(4, 4))),
			lists(list(opt(1, 5, 0xdc), opt(2, 0x41)), list(opt(2, 1), opt(3, 7, 7), opt(4, 4)))},
		{"other numbers are offered", both(limits), lists(list(opt(1, 7, 0xd0), opt(2, 0xff)), list(opt(2, 3), opt(1, 0, 1))),
			lists(list(opt(1, 5, 0xdc), opt(2, 0x41)), list(opt(2, 1), opt(1, 0, 64)))},
		{"types that the other one doesn't know", [2][]nego.Rule{open[:1], open[1:2]}, lists(list(opt(1, 1), opt(2, 2), opt(9)), list(opt(1, 1), opt(2, 2), opt(8))),
			lists(list(opt(2, 2)), list(opt(1, 1)))},
		{"types that the other one doesn't know, and other numbers", [2][]nego.Rule{loose, loose[:1]},
			lists(list(opt(1, 7, 0xd0), opt(2, 1)), list(opt(1, 0, 1), opt(2, 0xc1), opt(9, 9))),
			lists(list(opt(1, 5, 0xdc)), list(opt(1, 0, 64)))},
		{"a needed option that the other one doesn't ask for", both(limits), lists(list(opt(2, 1)), list(opt(1, 4, 0))),
			lists(list(opt(2, 1)), list(opt(1, 4, 0)))},
		{"nothing that the other one wants", both(limits), lists(list(opt(4), opt(3, 7)), list(opt(4, 1, 2), opt(1, 1))), lists(nil, list(opt(1, 5, 0xdc)))},
	}
}

// P13.5: two negotiators that exchange what they send, one after the other and
// in whatever order, until both are Opened with each other's options.
func TestTwoEnds(t *testing.T) {
	r := rand.New(rand.NewPCG(13, 4))
	for _, c := range pairs() {
		for round := range 200 {
			disorder := round%2 == 1
			what := fmt.Sprintf("P13.5: %s, round %d", c.what, round)
			x := newLine(t, c.rules, c.ask)
			x.openBoth(r)
			x.flow(r, disorder)
			for k := 0; disorder && !x.opened() && k < 100; k++ {
				x.take(0, x.ends[0].Tick())
				x.take(1, x.ends[1].Tick())
				x.flow(r, true)
			}
			if !x.opened() {
				t.Fatalf("%s: states %d and %d after %d packets", what, x.ends[0].State(), x.ends[1].State(), x.passed)
			}
			if !disorder && x.passed > 40 {
				t.Errorf("%s: %d packets", what, x.passed)
			}
			for end, n := range x.ends {
				wantAgreed(t, what, n, x.ends[1-end].Given(), x.ends[1-end].Mine())
			}
		}
	}
}

// P13.5: where the options fit or are offered, what both ends come to.
func TestWhatTwoEndsComeTo(t *testing.T) {
	r := rand.New(rand.NewPCG(13, 5))
	for _, c := range pairs() {
		x := newLine(t, c.rules, c.ask)
		x.openBoth(r)
		x.flow(r, false)
		for end, n := range x.ends {
			wantAgreed(t, fmt.Sprintf("P13.5: %s: end %d", c.what, end), n, c.mine[end], c.mine[1-end])
			wantDropped(t, "P13.5: "+c.what, n, 0)
		}
	}
}
