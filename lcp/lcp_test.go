package lcp_test

import (
	"fmt"
	"math"
	"testing"

	"fairlead/api"
	"fairlead/lcp"
)

// P14.3: what a new Lcp is, and what it asks for. (For New's errors, see
// TestTheFirstError.)
func TestNew(t *testing.T) {
	for _, c := range []api.Config{config(), full(true), full(false)} {
		for _, drawn := range []uint32{0, 1, 0x12345678, 0xffffffff} {
			l := newLcp(t, c, drawn)
			wantState(t, "P14.3: a new one", l, api.Initial)
			wantDropped(t, "P14.3: a new one", l, 0)
			wantAgreed(t, "P14.3: a new one", l, usual(), usual())
			wantOut(t, "P14.3: a new one: Tick", l.Tick(), lcp.Out{})
			begun(t, c, drawn)
		}
	}
	l := begun(t, full(true), 9)
	wantInput(t, "P14.3: all that a full one asks for", l,
		ack(1, mru(1000), accm(0), auth(), magic(9), pfc(), acfc(), mrru(900), short()), lcp.Out{}, api.AckRcvd)
}

// P14.3: the tries and the timeout are the configuration's.
func TestTriesAndTimeout(t *testing.T) {
	for _, tries := range []int{1, 2, 3, 7, 1000} {
		for _, timeout := range []int{1, 2, 3, 9} {
			c := config()
			c.Tries, c.Timeout = tries, timeout
			what := fmt.Sprintf("P14.3: tries %d, timeout %d", tries, timeout)
			l := begun(t, c, 5)
			for k := 1; k <= tries; k++ {
				for range timeout - 1 {
					wantOut(t, what, l.Tick(), lcp.Out{})
				}
				want := sends(request((k+1)%256, magic(5)))
				if k == tries {
					want = done(lcp.Out{})
				}
				wantOut(t, fmt.Sprintf("%s: the timer expires, %d", what, k), l.Tick(), want)
			}
			wantState(t, what, l, api.Stopped)
			wantNaks(t, what, c)
		}
	}
}

// wantNaks wants so many Configure-Naks as there are tries.
func wantNaks(t *testing.T, what string, c api.Config) {
	t.Helper()
	l := begun(t, c, 5)
	for k := range c.Tries {
		wantInput(t, what, l, request(k%256, auth(), mru(2000)), sends(nak(k%256, mru(1500))), api.ReqSent)
	}
	wantInput(t, what, l, request(0, auth(), mru(2000)), sends(reject(0, mru(2000))), api.ReqSent)
}

// P14.3: each event of Do in each state, and numbers that are no event of its.
func TestDo(t *testing.T) {
	for state := range states {
		for _, event := range []int{math.MinInt, -1, api.Up, api.Down, api.Open, api.Close, api.TimeMore, api.TimeOut, api.ReqGood, api.AckIn,
			api.Unknown, api.RejBad, api.EchoIn, api.Events, 1 << 32, math.MaxInt} {
			x := twinIn(t, full(false), 7, state, mru(700), auth())
			x.do(t, event)
			x.tick(t)
			x.do(t, event)
		}
	}
	l, id := in(t, config(), 7, api.Opened, auth())
	wantOut(t, "P14.3: Close", l.Do(api.Close), down(sends(plain(api.TermReq, id+1))))
	wantState(t, "P14.3: Close", l, api.Closing)
	wantOut(t, "P14.3: Down", l.Do(api.Down), lcp.Out{})
	wantState(t, "P14.3: Down", l, api.Initial)
	wantOut(t, "P14.3: Open", l.Do(api.Open), start(lcp.Out{}))
	wantOut(t, "P14.3: Close", l.Do(api.Close), done(lcp.Out{}))
}

// P14.3: the timer in each state, until it stops for good.
func TestTick(t *testing.T) {
	for state := range states {
		x := twinIn(t, full(true), 7, state)
		for range 20 {
			x.tick(t)
		}
	}
}

// P14.3: Draw ahead of and behind LayerStart and Up.
func TestDraw(t *testing.T) {
	for _, c := range []api.Config{config(), full(true)} {
		for _, drawn := range []uint32{0, 1, 9, 0xffffffff} {
			asks := func(id int, drawn uint32) lcp.Out { return sends(request(id, lcp.Ask(c, drawn)...)) }
			says := func(what string) string { return fmt.Sprintf("P14.3: Draw(%X) %s", drawn, what) }
			l := newLcp(t, c, 77)
			l.Draw(drawn)
			l.Do(api.Open)
			wantOut(t, says("ahead of LayerStart"), l.Do(api.Up), asks(1, drawn))

			l = newLcp(t, c, 77)
			l.Do(api.Open)
			l.Draw(5)
			l.Draw(drawn)
			wantOut(t, says("ahead of Up, behind another one"), l.Do(api.Up), asks(1, drawn))

			l = newLcp(t, c, 77)
			l.Do(api.Up)
			l.Draw(drawn)
			wantOut(t, says("between Up and Open"), l.Do(api.Open), asks(1, 77))
			wantOut(t, says("behind Open"), third(l), asks(2, 77))
			l.Do(api.Down)
			wantOut(t, says("and the next Up"), l.Do(api.Up), asks(3, drawn))
			wantOut(t, says("and the timer"), third(l), asks(4, drawn))

			l = begun(t, c, 77)
			l.Draw(drawn)
			wantOut(t, says("behind Up"), third(l), asks(2, 77))
			l.Do(api.Up)
			wantOut(t, says("and an Up without action"), l.Input(nak(2)), asks(3, drawn))

			l, _ = in(t, c, 77, api.Stopped)
			l.Draw(drawn)
			wantOut(t, says("ahead of a Down in Stopped"), l.Do(api.Down), start(lcp.Out{}))
			wantOut(t, says("ahead of a Down in Stopped"), l.Do(api.Up), asks(2, drawn))

			l, _ = in(t, c, 77, api.Closing)
			l.Input(plain(api.TermAck, 2))
			l.Draw(drawn)
			wantOut(t, says("ahead of an Open that is no LayerStart"), l.Do(api.Open), asks(3, 77))
		}
	}
}

// third is what the third of three ticks leads to.
func third(l *lcp.Lcp) lcp.Out {
	l.Tick()
	l.Tick()
	return l.Tick()
}

// P14.3: Draw in each state changes nothing but what is asked for later.
func TestDrawInEachState(t *testing.T) {
	for state := range states {
		x := twinIn(t, full(false), 7, state, magic(3), auth())
		x.draw(t, 1000)
		x.input(t, plain(api.EchoReq, 5, 1, 2, 3, 4))
		x.input(t, request(6, auth(), magic(7)))
		x.input(t, request(6, auth(), magic(1000)))
		x.do(t, api.Down)
		x.do(t, api.Open)
		x.do(t, api.Up)
		x.input(t, request(6, auth(), magic(7)))
		x.input(t, request(6, auth(), magic(1000)))
	}
}

// R7: a nil Lcp, and one that New did not make.
func TestUnmade(t *testing.T) {
	for _, l := range []*lcp.Lcp{nil, new(lcp.Lcp)} {
		for event := -1; event <= api.Events; event++ {
			wantOut(t, "R7: Do", l.Do(event), lcp.Out{})
		}
		for code := -1; code < 20; code++ {
			wantOut(t, "R7: Input", l.Input(plain(code, 1)), lcp.Out{})
			wantOut(t, "R7: Input", l.Input(plain(code, 1, 0xc0, 0x21, 3, 4, 5)), lcp.Out{})
		}
		l.Draw(7)
		wantOut(t, "R7: Tick", l.Tick(), lcp.Out{})
		wantOut(t, "R7: Refuse", l.Refuse(api.ProtoIP, []byte{1, 2}), lcp.Out{})
		wantState(t, "R7", l, 0)
		wantDropped(t, "R7", l, 0)
		wantAgreed(t, "R7", l, lcp.Values{}, lcp.Values{})
	}
}
