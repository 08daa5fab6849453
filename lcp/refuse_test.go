package lcp_test

import (
	"fmt"
	"math"
	"testing"

	"fairlead/api"
	"fairlead/lcp"
	"fairlead/packet"
)

// P14.4: Refuse in each state.
func TestRefuseInEachState(t *testing.T) {
	for state := range states {
		l, own := in(t, config(), 7, state, auth())
		want := lcp.Out{}
		if state == api.Opened {
			want = sends(plain(api.ProtRej, own+1, 0x80, 0x53, 1, 2, 3))
		}
		what := fmt.Sprintf("P14.4: Refuse in state %d", state)
		wantOut(t, what, l.Refuse(api.ProtoECP, []byte{1, 2, 3}), want)
		wantState(t, what, l, state)
		wantDropped(t, what, l, 0)
		x := twinIn(t, config(), 7, state, auth())
		x.refuse(t, api.ProtoECP, []byte{1, 2, 3})
		x.input(t, plain(99, 1))
		x.refuse(t, api.ProtoECP, nil)
		x.do(t, api.Down)
		x.refuse(t, api.ProtoECP, nil)
		x.do(t, api.Open)
		x.do(t, api.Up)
		x.refuse(t, api.ProtoECP, nil)
		x.tick(t)
	}
}

// P14.4: as much of what is refused as fits.
func TestRefuseOfSomeSizes(t *testing.T) {
	for _, size := range []int{0, 1, 2, 3, 100, 1492, 1493, 1494, 1495, 1496, 1497, 1500, 1501, 10000} {
		info := make([]byte, size)
		for i := range info {
			info[i] = byte(i*7 + i>>8)
		}
		l, own := in(t, config(), 7, api.Opened, auth())
		out := l.Refuse(0x1234, info)
		want := append([]byte{0x12, 0x34}, info...)
		if size > 1494 {
			want = want[:1496]
		}
		wantOut(t, fmt.Sprintf("P14.4: Refuse of %d bytes", size), out, sends(plain(api.ProtRej, own+1, want...)))
		if b, err := packet.Encode(out.Send[0]); err != api.OK || len(b) != min(size+6, api.MaxPacket) {
			t.Errorf("P14.4: the Protocol-Reject of %d bytes has %d, %d", size, len(b), err)
		}
	}
}

// P14.4: the protocol in two bytes, whatever it is.
func TestRefuseOfProtocols(t *testing.T) {
	l, own := in(t, config(), 7, api.Opened, auth())
	for proto := range 1 << 16 {
		own++
		wantOut(t, "P14.4: Refuse", l.Refuse(proto, []byte{9}), sends(plain(api.ProtRej, own%256, byte(proto>>8), byte(proto), 9)))
	}
	for _, proto := range []int{-1, -2, 1 << 16, 1<<16 + 0x21, 1<<32 + 0xc021, math.MinInt, math.MaxInt} {
		own++
		wantOut(t, "P14.4: Refuse", l.Refuse(proto, nil), sends(plain(api.ProtRej, own%256, byte(proto>>8), byte(proto))))
	}
	wantState(t, "P14.4", l, api.Opened)
}

// P14.4: the identifiers of what is sent ahead of Refuse and behind it are those
// of nego.
func TestRefuseIdentifiers(t *testing.T) {
	l, _ := in(t, config(), 7, api.Opened, auth())
	wantOut(t, "P14.4: behind a request", l.Refuse(api.ProtoIP, nil), sends(plain(api.ProtRej, 2, 0, 0x21)))
	wantInput(t, "P14.4: a Code-Reject", l, plain(99, 1), sends(plain(api.CodeRej, 3, 99, 1, 0, 4)), api.Opened)
	wantInput(t, "P14.4: an Echo-Reply", l, plain(api.EchoReq, 77, 1, 1, 1, 1), sends(plain(api.EchoRep, 77, 0, 0, 0, 7)), api.Opened)
	wantOut(t, "P14.4: behind both", l.Refuse(api.ProtoIP, nil), sends(plain(api.ProtRej, 4, 0, 0x21)))
	wantInput(t, "P14.4: a request", l, plain(api.TermAck, 1), down(sends(request(5, magic(7)))), api.ReqSent)
	wantOut(t, "P14.4: not Opened", l.Refuse(api.ProtoIP, nil), lcp.Out{})
	wantDrop(t, "P14.4: an Ack to what is ahead of it", l, ack(4, magic(7)))
	wantInput(t, "P14.4: an Ack", l, ack(5, magic(7)), lcp.Out{}, api.AckRcvd)
	wantInput(t, "P14.4: another request", l, request(1, auth()), up(sends(ack(1, auth()))), api.Opened)
	for k := 6; k < 600; k++ {
		wantOut(t, "P14.4: Refuse", l.Refuse(api.ProtoIP, nil), sends(plain(api.ProtRej, k%256, 0, 0x21)))
	}
	wantOut(t, "P14.4: Close", l.Do(api.Close), down(sends(plain(api.TermReq, 600%256))))
}
