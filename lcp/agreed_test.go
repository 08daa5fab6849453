package lcp_test

import (
	"fmt"
	"testing"

	"fairlead/api"
	"fairlead/lcp"
)

// P14.4: Mine and Peer in each state.
func TestMineAndPeerInEachState(t *testing.T) {
	given := list(mru(700), accm(5), auth(), magic(3), acfc(), mrru(64))
	mine := lcp.Values{Mru: 1000, Mrru: 900, Pfc: true, Acfc: true, Short: true, Magic: 7}
	peer := lcp.Values{Mru: 700, Mrru: 64, Accm: 5, Auth: true, Acfc: true, Magic: 3}
	for state := range states {
		l, _ := in(t, full(false), 7, state, given...)
		what := fmt.Sprintf("P14.4: state %d", state)
		if state != api.Opened {
			wantAgreed(t, what, l, usual(), usual())
			continue
		}
		wantAgreed(t, what, l, mine, peer)
		for range 3 { // what changes nothing
			l.Input(plain(api.EchoReq, 1, 1, 2, 3, 4))
			l.Input(plain(api.ProtRej, 1, 0x80, 0xfd))
			l.Input(plain(99, 1))
			l.Input(ack(1, lcp.Ask(full(false), 7)...))
			l.Refuse(api.ProtoIP, []byte{1})
			l.Draw(1234)
			l.Do(api.Up)
			l.Tick()
			wantAgreed(t, what, l, mine, peer)
		}
	}
	for i, leave := range []func(l *lcp.Lcp){
		func(l *lcp.Lcp) { l.Do(api.Down) }, func(l *lcp.Lcp) { l.Do(api.Close) }, func(l *lcp.Lcp) { l.Input(plain(api.TermReq, 1)) },
		func(l *lcp.Lcp) { l.Input(plain(api.TermAck, 1)) }, func(l *lcp.Lcp) { l.Input(plain(api.CodeRej, 1, 1)) },
		func(l *lcp.Lcp) { l.Input(plain(api.ProtRej, 1, 0xc0, 0x21)) }, func(l *lcp.Lcp) { l.Input(request(1, given...)) },
		func(l *lcp.Lcp) { l.Input(request(1, magic(7))) },
	} {
		l, _ := in(t, full(false), 7, api.Opened, given...)
		leave(l)
		wantAgreed(t, fmt.Sprintf("P14.4: behind Opened, %d", i), l, usual(), usual())
	}
}

// P14.4: Mine and Peer are what was agreed last, whatever was asked for at first.
func TestMineAndPeerChange(t *testing.T) {
	c := full(true)
	l, id := in(t, c, 7, api.Opened)
	mine := lcp.Values{Mru: 1000, Mrru: 900, Auth: true, Pfc: true, Acfc: true, Short: true, Magic: 7}
	wantAgreed(t, "P14.4: no options of the peer", l, mine, usual())

	l.Input(request(1, mru(64), pfc()))
	wantAgreed(t, "P14.4: AckSent", l, usual(), usual())
	l.Input(nak(id+1, mru(99), mrru(10), magic(5)))
	l.Input(reject(id+2, accm(0), auth()))
	l.Input(ack(id+3, mru(99), magic(5), pfc(), acfc(), mrru(64), short()))
	mine = lcp.Values{Mru: 99, Mrru: 64, Accm: 0xffffffff, Pfc: true, Acfc: true, Short: true, Magic: 5}
	wantState(t, "P14.4", l, api.Opened)
	wantAgreed(t, "P14.4: both are new", l, mine, lcp.Values{Mru: 64, Accm: 0xffffffff, Pfc: true})

	l.Do(api.Down)
	l.Do(api.Up)
	l.Input(ack(id+4, lcp.Ask(c, 7)...))
	l.Input(request(2, short(), magic(9)))
	mine = lcp.Values{Mru: 1000, Mrru: 900, Auth: true, Pfc: true, Acfc: true, Short: true, Magic: 7}
	wantAgreed(t, "P14.4: behind Down and Up", l, mine, lcp.Values{Mru: 1500, Accm: 0xffffffff, Short: true, Magic: 9})
}
