package lcp_test

import (
	"fmt"
	"math/rand/v2"
	"slices"
	"testing"

	"fairlead/api"
	"fairlead/lcp"
)

// line is two ends and the packets between them.
type line struct {
	ends   [2]*lcp.Lcp
	to     [2][]api.Packet // what waits for each end
	passed int
}

func (x *line) take(from int, out lcp.Out) {
	x.to[1-from] = append(x.to[1-from], out.Send...)
}

func (x *line) opened() bool {
	return x.ends[0].State() == api.Opened && x.ends[1].State() == api.Opened
}

// flow passes packets until none is left; in disorder any that waits may be next.
func (x *line) flow(r *rand.Rand, disorder bool) {
	for len(x.to[0])+len(x.to[1]) > 0 && x.passed < 1000 {
		end, at := r.IntN(2), 0
		if len(x.to[end]) == 0 {
			end = 1 - end
		}
		if disorder {
			at = r.IntN(len(x.to[end]))
		}
		p := x.to[end][at]
		x.to[end] = slices.Delete(slices.Clone(x.to[end]), at, at+1)
		x.take(end, x.ends[end].Input(p))
		x.passed++
	}
}

// meet lets two ends exchange what they send until both are Opened.
func meet(t *testing.T, r *rand.Rand, what string, c [2]api.Config, drawn [2]uint32, disorder bool) *line {
	t.Helper()
	x := &line{ends: [2]*lcp.Lcp{newLcp(t, c[0], drawn[0]), newLcp(t, c[1], drawn[1])}}
	for _, end := range r.Perm(2) {
		for _, k := range r.Perm(2) {
			x.take(end, x.ends[end].Do([]int{api.Open, api.Up}[k]))
		}
	}
	x.flow(r, disorder)
	for k := 0; disorder && !x.opened() && k < 100; k++ {
		x.take(0, x.ends[0].Tick())
		x.take(1, x.ends[1].Tick())
		x.flow(r, true)
	}
	if !x.opened() {
		t.Fatalf("%s: states %d and %d behind %d packets", what, x.ends[0].State(), x.ends[1].State(), x.passed)
	}
	if !disorder && x.passed > 80 {
		t.Errorf("%s: %d packets", what, x.passed)
	}
	wantAgreed(t, what, x.ends[0], x.ends[1].Peer(), x.ends[1].Mine())
	return x
}

// tolerant is a configuration with tries that are not used up.
func tolerant(change func(c *api.Config)) api.Config {
	c := config()
	c.Tries = 6
	change(&c)
	return c
}

// pair is what two ends are set up with, and what they come to.
type pair struct {
	what  string
	c     [2]api.Config
	drawn [2]uint32
	mine  [2]lcp.Values
}

func pairs() []pair {
	client := tolerant(func(c *api.Config) {})
	server := tolerant(func(c *api.Config) { c.Server = true })
	all := func(server bool) api.Config {
		c := full(server)
		c.Tries = 6
		return c
	}
	proves := stating(func(v *lcp.Values) { v.Auth, v.Magic = true, 1 })
	second := stating(func(v *lcp.Values) { v.Magic = 2 })
	full := lcp.Values{Mru: 1000, Mrru: 900, Auth: true, Pfc: true, Acfc: true, Short: true, Magic: 1}
	other := full
	other.Auth, other.Magic = false, 2
	return []pair{
		{"a plain server and a plain client", [2]api.Config{server, client}, [2]uint32{1, 2}, [2]lcp.Values{proves, second}},
		{"a plain server and a plain client without Magic", [2]api.Config{server, client}, [2]uint32{},
			[2]lcp.Values{stating(func(v *lcp.Values) { v.Auth = true }), usual()}},
		{"a full server and a full client", [2]api.Config{all(true), all(false)}, [2]uint32{1, 2}, [2]lcp.Values{full, other}},
		{"a full server and a plain client", [2]api.Config{all(true), client}, [2]uint32{1, 2},
			[2]lcp.Values{{Mru: 1000, Auth: true, Magic: 1}, second}},
		{"a plain server and a full client", [2]api.Config{server, all(false)}, [2]uint32{1, 2},
			[2]lcp.Values{proves, {Mru: 1000, Magic: 2}}},
		{"a server with numbers of its own and a client", [2]api.Config{
			tolerant(func(c *api.Config) { c.Server, c.Mru, c.Mrru, c.Accm = true, 64, 1500, 0x80000001 }),
			tolerant(func(c *api.Config) { c.Mrru, c.Short, c.Acfc = 64, true, true })}, [2]uint32{1, 0},
			[2]lcp.Values{{Mru: 64, Mrru: 1500, Accm: 0x80000001, Auth: true, Magic: 1},
				stating(func(v *lcp.Values) { v.Mrru, v.Short = 64, true })}},
		{"two servers", [2]api.Config{server, server}, [2]uint32{1, 2}, [2]lcp.Values{stating(func(v *lcp.Values) { v.Magic = 1 }), second}},
		{"two clients", [2]api.Config{client, client}, [2]uint32{1, 2}, [2]lcp.Values{stating(func(v *lcp.Values) { v.Magic = 1 }), second}},
	}
}

// P14.3, P14.4: two ends, with like and unlike configurations, that exchange what
// they send in order and in any other, and what they come to.
func TestTwoEnds(t *testing.T) {
	r := rand.New(rand.NewPCG(14, 5))
	for _, c := range pairs() {
		for round := range 200 {
			what := fmt.Sprintf("P14.3, P14.4: %s, round %d", c.what, round)
			x := meet(t, r, what, c.c, c.drawn, round%2 == 1)
			wantAgreed(t, what, x.ends[0], c.mine[0], c.mine[1])
			wantAgreed(t, what, x.ends[1], c.mine[1], c.mine[0])
		}
	}
}

// P14.3: two ends with one Magic come to two, or to none.
func TestOneMagicForBoth(t *testing.T) {
	r := rand.New(rand.NewPCG(14, 6))
	var none, two int
	for _, c := range pairs() {
		for round := range 100 {
			what := fmt.Sprintf("P14.3: one Magic, %s, round %d", c.what, round)
			for _, drawn := range []uint32{1, 0xffffffff} {
				x := meet(t, r, what, c.c, [2]uint32{drawn, drawn}, round%2 == 1)
				a, b := x.ends[0].Mine(), x.ends[1].Mine()
				if a.Magic == b.Magic && a.Magic != 0 {
					t.Errorf("%s: both have Magic %X", what, a.Magic)
				}
				if a.Magic == 0 {
					none++
				} else {
					two++
				}
				a.Magic, b.Magic = c.mine[0].Magic, c.mine[1].Magic
				wantValues(t, what, a, c.mine[0])
				wantValues(t, what, b, c.mine[1])
			}
		}
	}
	if none == 0 || two == 0 {
		t.Errorf("P14.3: %d times no Magic was left, %d times one was", none, two)
	}
}

// P14.3: any two right configurations, one of them a server's.
func TestAnyTwoEnds(t *testing.T) {
	r := rand.New(rand.NewPCG(14, 7))
	for round := range 3000 {
		var c [2]api.Config
		for end := range c {
			c[end] = anyConfig(r)
			c[end].Tries, c[end].Server = 6, end == 0
		}
		drawn := [2]uint32{r.Uint32N(3), r.Uint32N(3)}
		what := fmt.Sprintf("P14.3: %+v, Magic %d", c, drawn)
		x := meet(t, r, what, c, drawn, round%2 == 1)
		for end, l := range x.ends {
			want := lcp.Read(lcp.Ask(c[end], drawn[end]))
			got := l.Mine()
			if !c[1-end].Pfc {
				want.Pfc = false
			}
			if !c[1-end].Acfc {
				want.Acfc = false
			}
			if c[1-end].Mrru == 0 {
				want.Mrru, want.Short = 0, false
			}
			if drawn[0] == drawn[1] {
				want.Magic = got.Magic
			}
			wantValues(t, what, got, want)
		}
	}
}

// hear hands an end all that it sends, until nothing is left, and is all of it.
func hear(l *lcp.Lcp) []api.Packet {
	l.Do(api.Open)
	waiting := l.Do(api.Up).Send
	var all []api.Packet
	for len(waiting) > 0 && len(all) < 100 {
		p := waiting[0]
		all = append(all, p)
		waiting = append(waiting[1:], l.Input(p).Send...)
	}
	return all
}

func wantHeard(t *testing.T, what string, c api.Config, drawn uint32, want ...api.Packet) *lcp.Lcp {
	t.Helper()
	l := newLcp(t, c, drawn)
	if got := hear(l); toldOut(sends(got...)) != toldOut(sends(want...)) {
		t.Errorf("%s: %s, want %s", what, toldOut(sends(got...)), toldOut(sends(want...)))
	}
	wantDropped(t, what, l, 0)
	return l
}

// P14.3: an end that hears itself alone asks for another Magic as often as there
// are tries, and then for none.
func TestAnEndThatHearsItself(t *testing.T) {
	c := config() // tries 2
	l := wantHeard(t, "P14.3: a client hears itself", c, 0xfffffffe,
		request(1, magic(0xfffffffe)), nak(1, magic(0xffffffff)),
		request(2, magic(0xffffffff)), nak(2, magic(1)),
		request(3, magic(1)), reject(3, magic(1)),
		request(4), ack(4))
	wantState(t, "P14.3: a client hears itself", l, api.Opened)
	wantAgreed(t, "P14.3: a client hears itself", l, usual(), usual())

	c.Server = true
	l = wantHeard(t, "P14.3: a server hears itself", c, 7,
		request(1, auth(), magic(7)), reject(1, auth()),
		request(2, magic(7)), nak(2, magic(8)),
		request(3, magic(8)), nak(3, magic(9)),
		request(4, magic(9)), reject(4, magic(9)),
		request(5), ack(5))
	wantState(t, "P14.3: a server hears itself", l, api.Opened)

	wantHeard(t, "P14.3: a client without Magic hears itself", config(), 0,
		request(1), nak(1, auth()), request(2), nak(2, auth()), request(3), ack(3))
	wantHeard(t, "P14.3: a server without Magic hears itself", c, 0,
		request(1, auth()), reject(1, auth()), request(2), ack(2))
}

// P14.3: the same with any configuration: no Magic is left.
func TestAnyEndThatHearsItself(t *testing.T) {
	r := rand.New(rand.NewPCG(14, 8))
	for range 2000 {
		c, drawn := anyConfig(r), r.Uint32()
		l := newLcp(t, c, drawn)
		naks := 0
		for _, p := range hear(l) {
			if p.Code == api.ConfNak {
				naks++
			}
		}
		what := fmt.Sprintf("P14.3: hears itself: %+v", c)
		wantState(t, what, l, api.Opened)
		want := lcp.Read(lcp.Ask(c, 0))
		want.Auth = false
		wantAgreed(t, what, l, want, want)
		if naks != c.Tries {
			t.Errorf("%s: %d Naks", what, naks)
		}
	}
}
