package lcp_test

import (
	"fmt"
	"testing"

	"fairlead/api"
	"fairlead/lcp"
)

// server is a configuration that acknowledges a request without options.
func server(tries int) api.Config {
	c := config()
	c.Server, c.Tries = true, tries
	return c
}

// P14.3: one's own Magic, another one and none.
func TestMagic(t *testing.T) {
	for _, drawn := range []uint32{0, 1, 2, 0xff, 0xffff, 0x12345678, 0xfffffffe, 0xffffffff} {
		for _, other := range []uint32{0, 1, 2, 3, 0x100, 0x10000, 0x12345679, 0x78563412, 0xfffffffe, 0xffffffff} {
			what := fmt.Sprintf("P14.3: own Magic %X", drawn)
			l := begun(t, server(3), drawn)
			wantInput(t, what+", no Magic", l, request(1), sends(ack(1)), api.AckSent)
			if other == drawn && drawn != 0 {
				next := drawn + 1
				if drawn == 0xffffffff {
					next = 1
				}
				wantInput(t, what, l, request(2, magic(other)), sends(nak(2, magic(next))), api.ReqSent)
			} else {
				wantInput(t, what, l, request(2, magic(other)), sends(ack(2, magic(other))), api.AckSent)
			}
			wantInput(t, what+", a Magic of another size", l, request(3, opt(5, 0, 0, 1)), sends(reject(3, opt(5, 0, 0, 1))), api.ReqSent)
		}
	}
}

// P14.3: one's own Magic behind so many Configure-Naks as there are tries, and
// fewer, whatever these were for.
func TestMagicAndTries(t *testing.T) {
	for tries := 1; tries < 6; tries++ {
		for others := range tries + 2 {
			l := begun(t, server(tries), 100)
			for round := range 3 {
				what := func(k int) string {
					return fmt.Sprintf("P14.3: tries %d, %d others, round %d, %d", tries, others, round, k)
				}
				for k := range min(others, tries) {
					wantInput(t, what(k), l, request(k, mru(1)), sends(nak(k, mru(64))), api.ReqSent)
					wantInput(t, what(k)+", a reject", l, request(k, opt(9)), sends(reject(k, opt(9))), api.ReqSent)
				}
				for k := others; k < tries; k++ {
					wantInput(t, what(k), l, request(k, magic(100)), sends(nak(k, magic(101))), api.ReqSent)
					wantInput(t, what(k)+", a reject", l, request(k, opt(9), magic(100)), sends(reject(k, opt(9))), api.ReqSent)
				}
				for k := range 3 {
					wantInput(t, what(k)+" behind the Naks", l, request(k, magic(100)), sends(reject(k, magic(100))), api.ReqSent)
				}
				wantInput(t, what(0)+" behind the Naks, no Magic", l, request(0), sends(ack(0)), api.AckSent)
				wantInput(t, what(0)+" behind the Naks, another Magic", l, request(0, magic(101)), sends(ack(0, magic(101))), api.AckSent)
				l.Do(api.Down)
				l.Do(api.Up)
			}
		}
	}
}

// P14.3: one's own Magic beside options that are rejected, that are offered, that
// are right and that are needed.
func TestMagicBesideOthers(t *testing.T) {
	for _, x := range []struct {
		what           string
		c              api.Config
		asked          []api.Option
		answer, behind api.Packet // ahead of the last try and behind it
	}{
		{"an unknown option", server(1), list(opt(9), magic(7)), reject(0, opt(9)), reject(0, opt(9))},
		{"an unknown option behind it", server(1), list(magic(7), opt(9, 1)), reject(0, opt(9, 1)), reject(0, opt(9, 1))},
		{"an option of another size", server(1), list(magic(7), opt(2, 1)), reject(0, opt(2, 1)), reject(0, opt(2, 1))},
		{"a proof that a server is asked for", server(1), list(auth(), magic(7)), reject(0, auth()), reject(0, auth())},
		{"the same Magic again", server(1), list(magic(7), magic(7)), reject(0, magic(7)), reject(0, magic(7))},
		{"another Magic behind it", server(1), list(magic(7), magic(8)), reject(0, magic(8)), reject(0, magic(8))},
		{"another Magic ahead of it", server(1), list(magic(8), magic(7)), reject(0, magic(7)), reject(0, magic(7))},
		{"no Magic behind it", server(1), list(magic(7), opt(5)), reject(0, opt(5)), reject(0, opt(5))},
		{"an option that is offered", server(1), list(mru(2000), magic(7)), nak(0, magic(8)), reject(0, mru(2000))},
		{"an option that is right", server(1), list(mru(1000), magic(7), accm(0)), nak(0, magic(8)), reject(0, magic(7))},
		{"a needed option that is missing", changed(func(c *api.Config) { c.Tries = 1 }), list(magic(7)), nak(0, magic(8)), reject(0, magic(7))},
		{"a needed option that is wrong", changed(func(c *api.Config) { c.Tries = 1 }), list(opt(3, 1), magic(7)), nak(0, magic(8)), reject(0, opt(3, 1))},
		{"a needed option", changed(func(c *api.Config) { c.Tries = 1 }), list(auth(), magic(7)), nak(0, magic(8)), reject(0, magic(7))},
		{"an unknown option and one that is offered", server(1), list(opt(9), mru(2000), magic(7)), reject(0, opt(9)), reject(0, opt(9), mru(2000))},
	} {
		what := "P14.3: one's own Magic and " + x.what
		l := begun(t, x.c, 7)
		wantInput(t, what, l, request(0, x.asked...), sends(x.answer), api.ReqSent)
		l = begun(t, x.c, 7)
		l.Input(request(0, auth(), mru(1)))
		l.Input(request(0, mru(1)))
		wantInput(t, what+", behind the Naks", l, request(0, x.asked...), sends(x.behind), api.ReqSent)
	}
	l := begun(t, server(1), 7)
	whole := request(0, magic(7)).Data
	wantDrop(t, "P14.3: one's own Magic ahead of half an option", l, plain(api.ConfReq, 0, append(whole, 1)...))
	wantDrop(t, "P14.3: half of one's own Magic", l, plain(api.ConfReq, 0, whole[:5]...))
}

// P14.3: one's own Magic in each state: the event is ReqBad.
func TestMagicInEachState(t *testing.T) {
	c := server(1)
	asks := func(id int) api.Packet { return request(id, lcp.Ask(c, 7)...) }
	own := request(9, magic(7))
	for _, x := range []struct {
		state, next int
		want        lcp.Out
		behind      api.Packet // the answer when the tries are used up
	}{
		{api.Closed, api.Closed, sends(plain(api.TermAck, 1)), plain(api.TermAck, 2)},
		{api.Stopped, api.ReqSent, sends(asks(2), nak(9, magic(8))), reject(9, magic(7))},
		{api.ReqSent, api.ReqSent, sends(nak(9, magic(8))), reject(9, magic(7))},
		{api.AckRcvd, api.AckRcvd, sends(nak(9, magic(8))), reject(9, magic(7))},
		{api.AckSent, api.ReqSent, sends(nak(9, magic(8))), reject(9, magic(7))},
		{api.Opened, api.ReqSent, down(sends(asks(2), nak(9, magic(8)))), reject(9, magic(7))},
	} {
		l, _ := in(t, c, 7, x.state)
		what := fmt.Sprintf("P14.3: one's own Magic in state %d", x.state)
		wantInput(t, what, l, own, x.want, x.next)
		wantInput(t, what+", behind the Naks", l, own, sends(x.behind), x.next)
	}
	for _, state := range []int{api.Closing, api.Stopping} {
		l, _ := in(t, c, 7, state)
		wantInput(t, "P14.3: one's own Magic while it ends", l, own, lcp.Out{}, state)
	}
	for _, state := range []int{api.Initial, api.Starting} {
		l, _ := in(t, c, 7, state)
		wantDrop(t, "P14.3: one's own Magic while the line is down", l, own)
	}
}

// P14.3: ahead of any request of one's own there is no own Magic, and no
// Configure-Nak counts that is not sent.
func TestMagicAheadOfARequest(t *testing.T) {
	l, _ := in(t, server(1), 7, api.Closed)
	for k := range 4 {
		wantInput(t, "P14.3: in Closed", l, request(k, magic(7)), sends(plain(api.TermAck, k+1)), api.Closed)
	}
	wantOut(t, "P14.3: the first request", l.Do(api.Open), sends(request(5, auth(), magic(7))))
	wantInput(t, "P14.3: the first Nak", l, request(1, magic(7)), sends(nak(1, magic(8))), api.ReqSent)
	wantInput(t, "P14.3: behind it", l, request(1, magic(7)), sends(reject(1, magic(7))), api.ReqSent)
}

// P14.3: the own Magic is that of the last request, as it was sent.
func TestOwnMagicIsTheLast(t *testing.T) {
	passes := func(what string, l *lcp.Lcp, n uint32) {
		t.Helper()
		wantInput(t, "P14.3: no own Magic: "+what, l, request(9, magic(n)), sends(ack(9, magic(n))), api.AckSent)
	}
	turned := func(what string, l *lcp.Lcp, n uint32) {
		t.Helper()
		wantInput(t, "P14.3: the own Magic: "+what, l, request(9, magic(n)), sends(nak(9, magic(n+1))), api.ReqSent)
	}
	l := begun(t, server(100), 7)
	turned("the first request", l, 7)
	l.Input(nak(1, magic(50)))
	passes("behind a Nak, the first one", l, 7)
	turned("behind a Nak", l, 50)
	l.Input(nak(2, opt(5, 50)))
	passes("behind a Nak of another size, the one ahead", l, 50)
	l.Input(reject(3, opt(5, 50)))
	passes("behind a Reject", l, 50)
	passes("behind a Reject, the first one", l, 7)
	l.Draw(90)
	passes("that was drawn, ahead of Up", l, 90)
	l.Do(api.Up)
	passes("that was drawn, ahead of the next request", l, 90)
	l.Tick()
	wantOut(t, "P14.3: the next request", ticked(l), sends(request(5, auth(), magic(90))))
	turned("of the next request", l, 90)
	passes("of another request", l, 50)
	l.Draw(0)
	l.Do(api.Down)
	l.Do(api.Up)
	passes("of the request ahead of Down", l, 90)
	passes("0", l, 0)

	l = begun(t, server(100), 7)
	l.Do(api.Down)
	l.Draw(70)
	wantOut(t, "P14.3: the next Up", l.Do(api.Up), sends(request(2, auth(), magic(70))))
	turned("behind the next Up", l, 70)
	passes("of the request ahead of Down", l, 7)

	// A Nak that comes in Stopped changes the next request, not the last one.
	l = begun(t, server(1), 7)
	third(l)
	wantInput(t, "P14.3: a Nak in Stopped", l, nak(1, magic(60)), sends(plain(api.TermAck, 2)), api.Stopped)
	wantInput(t, "P14.3: the Magic of the last request, in Stopped", l, request(9, magic(7)),
		sends(request(3, auth(), magic(60)), nak(9, magic(8))), api.ReqSent)
	passes("behind it, the older one", l, 7)
}

// ticked is what two ticks lead to.
func ticked(l *lcp.Lcp) lcp.Out {
	l.Tick()
	return l.Tick()
}
