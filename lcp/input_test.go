package lcp_test

import (
	"fmt"
	"math"
	"slices"
	"testing"

	"fairlead/api"
	"fairlead/lcp"
)

// kinds is every kind of packet, and the states in which it is dropped: a d for
// each, in their order.
func kinds(asked []api.Option) []struct {
	what    string
	p       api.Packet
	dropped string
} {
	whole := request(9, auth(), magic(5)).Data
	return []struct {
		what    string
		p       api.Packet
		dropped string
	}{
		{"a good request", request(9, auth()), "dd........"},
		{"a bad request", request(9, auth(), mru(1)), "dd........"},
		{"a request without options", request(9), "dd........"},
		{"a request with an unknown option", request(9, opt(99)), "dd........"},
		{"a request with the own Magic", request(9, auth(), magic(7)), "dd........"},
		{"a request with another Magic", request(9, auth(), magic(8)), "dd........"},
		{"a request that does not split", plain(api.ConfReq, 9, whole[:len(whole)-1]...), "dddddddddd"},
		{"an Ack", ack(1, asked...), "ddd....d.d"},
		{"an Ack of an older request", ack(0, asked...), "dddddddddd"},
		{"an Ack of other options", ack(1, asked[1:]...), "dddddddddd"},
		{"a Nak", nak(1, magic(3)), "ddd....d.d"},
		{"a Nak of a newer request", nak(2, magic(3)), "dddddddddd"},
		{"a Nak that does not split", plain(api.ConfNak, 1, 1), "dddddddddd"},
		{"a Reject", reject(1, asked[0]), "ddd....d.d"},
		{"a Reject of what was not asked for", reject(1, opt(99)), "dddddddddd"},
		{"a Terminate-Request", plain(api.TermReq, 9), "dd........"},
		{"a Terminate-Request with data", plain(api.TermReq, 9, 1, 2), "dd........"},
		{"a Terminate-Ack", plain(api.TermAck, 9), "dd........"},
		{"a Code-Reject of a code of nego", plain(api.CodeRej, 9, 1), "dd........"},
		{"a Code-Reject of another code", plain(api.CodeRej, 9, 8), "dd........"},
		{"a Code-Reject without data", plain(api.CodeRej, 9), "dddddddddd"},
		{"a Protocol-Reject without data", plain(api.ProtRej, 9), "dddddddddd"},
		{"a Protocol-Reject with a byte", plain(api.ProtRej, 9, 0xc0), "dddddddddd"},
		{"a Protocol-Reject of LCP", plain(api.ProtRej, 9, 0xc0, 0x21), "ddddddddd."},
		{"a Protocol-Reject of LCP with data", plain(api.ProtRej, 9, 0xc0, 0x21, 1, 2, 3), "ddddddddd."},
		{"a Protocol-Reject of CCP", plain(api.ProtRej, 9, 0x80, 0xfd), "ddddddddd."},
		{"a Protocol-Reject of CCP with data", plain(api.ProtRej, 9, 0x80, 0xfd, 1), "ddddddddd."},
		{"an Echo-Request without data", plain(api.EchoReq, 9), "dddddddddd"},
		{"an Echo-Request with 3 bytes", plain(api.EchoReq, 9, 0, 0, 0), "dddddddddd"},
		{"an Echo-Request with 4 bytes", plain(api.EchoReq, 9, 0, 0, 0, 7), "dd........"},
		{"an Echo-Request with 5 bytes", plain(api.EchoReq, 9, 0, 0, 0, 8, 1), "dd........"},
		{"an Echo-Reply without data", plain(api.EchoRep, 9), "ddddddddd."},
		{"an Echo-Reply with 4 bytes", plain(api.EchoRep, 9, 0, 0, 0, 7), "ddddddddd."},
		{"a Discard without data", plain(api.Discard, 9), "ddddddddd."},
		{"a Discard with 5 bytes", plain(api.Discard, 9, 1, 2, 3, 4, 5), "ddddddddd."},
		{"a Reset-Request", plain(api.ResetReq, 9), "dd........"},
		{"a Reset-Ack", plain(api.ResetAck, 9), "dd........"},
		{"code 0", plain(0, 9), "dd........"},
		{"code 12", plain(12, 9, 1, 2), "dd........"},
		{"code 13", plain(13, 9), "dd........"},
		{"code 16", plain(16, 9), "dd........"},
		{"code 255", plain(255, 255), "dd........"},
		{"code 264, modulo 256 a Protocol-Reject", plain(264, 9, 0xc0, 0x21), "dd........"},
		{"code -1", plain(-1, 9), "dd........"},
		{"the least code", plain(math.MinInt, 9), "dd........"},
		{"the greatest code and identifier", plain(math.MaxInt, math.MaxInt), "dd........"},
	}
}

// P14.3: every kind of packet in every state: what is dropped, and what comes of
// what is not, by the words.
func TestEveryPacketInEveryState(t *testing.T) {
	for _, c := range []api.Config{full(false), config()} {
		for _, kind := range kinds(lcp.Ask(c, 7)) {
			for state := range states {
				x := twinIn(t, c, 7, state, magic(3), auth())
				for range 2 {
					x.input(t, kind.p)
				}
				l, _ := in(t, c, 7, state, magic(3), auth())
				if kind.dropped[state] == 'd' {
					wantDrop(t, fmt.Sprintf("P14.3: %s in state %d", kind.what, state), l, kind.p)
					continue
				}
				l.Input(kind.p)
				wantDropped(t, fmt.Sprintf("P14.3: %s in state %d", kind.what, state), l, 0)
			}
		}
	}
}

// P14.3: what comes of some packets in Opened, written out.
func TestPacketsInOpened(t *testing.T) {
	c := full(false)
	again := sends(request(2, lcp.Ask(c, 7)...))
	for _, x := range []struct {
		what string
		p    api.Packet
		want lcp.Out
		next int
	}{
		{"a good request", request(9, auth()), down(sends(again.Send[0], ack(9, auth()))), api.AckSent},
		{"a bad request", request(9, mru(1)), down(sends(again.Send[0], nak(9, mru(64), auth()))), api.ReqSent},
		{"a request with the own Magic", request(9, auth(), magic(7)), down(sends(again.Send[0], nak(9, magic(8)))), api.ReqSent},
		{"a Terminate-Request", plain(api.TermReq, 9), down(sends(plain(api.TermAck, 9))), api.Stopping},
		{"a Terminate-Ack", plain(api.TermAck, 9), down(again), api.ReqSent},
		{"a Code-Reject of a code of nego", plain(api.CodeRej, 9, 7), down(sends(plain(api.TermReq, 2))), api.Stopping},
		{"a Code-Reject of another code", plain(api.CodeRej, 9, 8), lcp.Out{}, api.Opened},
		{"an unknown code", plain(14, 9, 3), sends(plain(api.CodeRej, 2, 14, 9, 0, 5, 3)), api.Opened},
	} {
		l, _ := in(t, c, 7, api.Opened, auth())
		wantInput(t, "P14.3: "+x.what, l, x.p, x.want, x.next)
	}
}

// P14.3: Echo-Requests in Opened, with and without a Magic that was agreed.
func TestEcho(t *testing.T) {
	for _, drawn := range []uint32{0, 1, 0x12345678, 0xffffffff} {
		for _, c := range []api.Config{config(), full(true)} {
			for _, size := range []int{4, 5, 6, 8, 100, 1495, 1496, 1497, 5000} {
				given := auth()
				if c.Server {
					given = magic(99)
				}
				l, own := in(t, c, drawn, api.Opened, given)
				data := make([]byte, size)
				for i := range data {
					data[i] = byte(i + 1)
				}
				back := slices.Clone(data)
				copy(back, magic(drawn).Data)
				for _, id := range []int{0, 1, 200, 255, 256, -1, math.MaxInt} {
					what := fmt.Sprintf("P14.3: Magic %X, %d bytes", drawn, size)
					wantInput(t, what, l, plain(api.EchoReq, id, data...), sends(plain(api.EchoRep, id, back...)), api.Opened)
				}
				wantOut(t, "P14.3: the next own identifier", l.Refuse(0, nil), sends(plain(api.ProtRej, own+1, 0, 0)))
			}
		}
	}
}

// P14.3: the Magic of an Echo-Reply is the one that was acknowledged, not the
// one that was drawn, nor the peer's.
func TestEchoMagic(t *testing.T) {
	ping := plain(api.EchoReq, 3, 9, 9, 9, 9, 1)
	l := begun(t, config(), 7)
	l.Input(request(1, auth(), magic(77)))
	wantOut(t, "P14.3: another Magic is asked for", l.Input(nak(1, magic(0x01020304))), sends(request(2, magic(0x01020304))))
	wantOut(t, "P14.3: it is acknowledged", l.Input(ack(2, magic(0x01020304))), up(lcp.Out{}))
	l.Draw(8)
	l.Do(api.Up)
	wantInput(t, "P14.3: the Magic that was agreed", l, ping, sends(plain(api.EchoRep, 3, 1, 2, 3, 4, 1)), api.Opened)

	l = begun(t, config(), 7)
	l.Input(request(1, auth(), magic(77)))
	wantOut(t, "P14.3: no Magic is asked for", l.Input(reject(1, magic(7))), sends(request(2)))
	wantOut(t, "P14.3: that is acknowledged", l.Input(ack(2)), up(lcp.Out{}))
	wantInput(t, "P14.3: no Magic was agreed", l, ping, sends(plain(api.EchoRep, 3, 0, 0, 0, 0, 1)), api.Opened)

	l = begun(t, config(), 7)
	l.Input(request(1, auth()))
	wantOut(t, "P14.3: a Magic of another size is asked for", l.Input(nak(1, opt(5, 1, 2))), sends(request(2, opt(5, 1, 2))))
	wantOut(t, "P14.3: it is acknowledged", l.Input(ack(2, opt(5, 1, 2))), up(lcp.Out{}))
	wantInput(t, "P14.3: what has another size is no Magic", l, ping, sends(plain(api.EchoRep, 3, 0, 0, 0, 0, 1)), api.Opened)
}

// P14.3: what has no action leaves the automaton, its timer and its identifiers
// as they are, in every state.
func TestWhatIsOnlyIgnored(t *testing.T) {
	for state := range states {
		for _, p := range []api.Packet{plain(api.EchoReq, 1, 1, 2, 3, 4, 5), plain(api.EchoReq, 1, 1, 2, 3), plain(api.EchoRep, 1),
			plain(api.Discard, 1), plain(api.ProtRej, 1, 0x80, 0xfd), plain(api.ProtRej, 1)} {
			a, _ := in(t, full(false), 7, state, auth())
			b, _ := in(t, full(false), 7, state, auth())
			for range 12 {
				a.Input(p)
				what := fmt.Sprintf("P14.3: %s in state %d", toldPacket(p), state)
				wantOut(t, what+", and a Tick", a.Tick(), b.Tick())
				wantOut(t, what+", and an unknown code", a.Input(plain(99, 1)), b.Input(plain(99, 1)))
				wantState(t, what, a, b.State())
				wantAgreed(t, what, a, b.Mine(), b.Peer())
			}
		}
	}
}

// P14.3: a Protocol-Reject of each protocol.
func TestProtocolRejects(t *testing.T) {
	l, own := in(t, full(true), 7, api.Opened)
	for proto := range 1 << 16 {
		if proto == api.ProtoLCP {
			continue
		}
		want := lcp.Out{Reject: proto}
		wantInput(t, "P14.3", l, plain(api.ProtRej, proto, byte(proto>>8), byte(proto)), want, api.Opened)
		if proto%256 == 0x21 {
			wantInput(t, "P14.3", l, plain(api.ProtRej, 0, byte(proto>>8), byte(proto), 0xc0, 0x21, 7), want, api.Opened)
		}
	}
	wantAgreed(t, "P14.3: behind all", l, lcp.Read(lcp.Ask(full(true), 7)), usual())
	for _, more := range [][]byte{nil, {0}, {0x80, 0xfd}, make([]byte, 1494), make([]byte, 3000)} {
		l, own = in(t, full(true), 7, api.Opened)
		p := plain(api.ProtRej, 7, append([]byte{0xc0, 0x21}, more...)...)
		wantInput(t, "P14.3: LCP itself", l, p, down(sends(plain(api.TermReq, own+1))), api.Stopping)
		wantDrop(t, "P14.3: LCP itself, twice", l, p)
	}
}
