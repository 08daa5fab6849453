package lcp_test

import (
	"fmt"
	"slices"
	"strings"
	"testing"

	"fairlead/api"
	"fairlead/lcp"
	"fairlead/nego"
	"fairlead/packet"
)

func opt(kind int, data ...byte) api.Option { return api.Option{Type: kind, Data: data} }

func list(l ...api.Option) []api.Option { return l }

// The options as the chapter has them.
func mru(n int) api.Option      { return opt(1, byte(n>>8), byte(n)) }
func accm(n uint32) api.Option  { return opt(2, byte(n>>24), byte(n>>16), byte(n>>8), byte(n)) }
func auth() api.Option          { return opt(3, 0xc2, 0x23, 0x81) }
func magic(n uint32) api.Option { return opt(5, byte(n>>24), byte(n>>16), byte(n>>8), byte(n)) }
func pfc() api.Option           { return opt(7) }
func acfc() api.Option          { return opt(8) }
func mrru(n int) api.Option     { return opt(17, byte(n>>8), byte(n)) }
func short() api.Option         { return opt(18) }

func plain(code, id int, data ...byte) api.Packet {
	return api.Packet{Code: code, Id: id, Data: data}
}

// with is a packet whose data is options, which have to have an encoding.
func with(code, id int, l ...api.Option) api.Packet {
	b, err := packet.Options(l)
	if err != api.OK {
		panic(err)
	}
	return plain(code, id, b...)
}

func request(id int, l ...api.Option) api.Packet { return with(api.ConfReq, id, l...) }
func ack(id int, l ...api.Option) api.Packet     { return with(api.ConfAck, id, l...) }
func nak(id int, l ...api.Option) api.Packet     { return with(api.ConfNak, id, l...) }
func reject(id int, l ...api.Option) api.Packet  { return with(api.ConfRej, id, l...) }

// config is a configuration that asks for nothing and of which all is right.
func config() api.Config {
	return api.Config{Name: "name", Secret: "secret", Mru: 1500, Accm: 0xffffffff, Timeout: 3, Tries: 2}
}

// full is one that asks for everything and allows everything.
func full(server bool) api.Config {
	c := config()
	c.Server, c.Mru, c.Accm, c.Pfc, c.Acfc, c.Mrru, c.Short = server, 1000, 0, true, true, 900, true
	return c
}

func toldOptions(l []api.Option) string {
	var s strings.Builder
	for _, o := range l {
		fmt.Fprintf(&s, "[%d: %X]", o.Type, o.Data)
	}
	return "{" + s.String() + "}"
}

func toldPacket(p api.Packet) string { return fmt.Sprintf("(%d #%d %X)", p.Code, p.Id, p.Data) }

// toldOut is all that an Out holds, the same text for nil and empty lists.
func toldOut(out lcp.Out) string {
	var s strings.Builder
	for _, p := range out.Send {
		s.WriteString(toldPacket(p) + " ")
	}
	flags := []string{"Up ", "Down ", "Start ", "Done "}
	for i, is := range []bool{out.Up, out.Down, out.Start, out.Done} {
		if is {
			s.WriteString(flags[i])
		}
	}
	if out.Reject != 0 {
		fmt.Fprintf(&s, "Reject %X", out.Reject)
	}
	return s.String()
}

func sends(l ...api.Packet) lcp.Out { return lcp.Out{Out: nego.Out{Send: l}} }

func up(out lcp.Out) lcp.Out    { out.Up = true; return out }
func down(out lcp.Out) lcp.Out  { out.Down = true; return out }
func start(out lcp.Out) lcp.Out { out.Start = true; return out }
func done(out lcp.Out) lcp.Out  { out.Done = true; return out }

func wantOptions(t *testing.T, what string, got, want []api.Option) {
	t.Helper()
	if !packet.Same(got, want) {
		t.Errorf("%s: %s, want %s", what, toldOptions(got), toldOptions(want))
	}
}

func wantOut(t *testing.T, what string, got, want lcp.Out) {
	t.Helper()
	if toldOut(got) != toldOut(want) {
		t.Errorf("%s: %s, want %s", what, toldOut(got), toldOut(want))
	}
}

func wantState(t *testing.T, what string, l *lcp.Lcp, want int) {
	t.Helper()
	if got := l.State(); got != want {
		t.Errorf("%s: state %d, want %d", what, got, want)
	}
}

func wantDropped(t *testing.T, what string, l *lcp.Lcp, want int) {
	t.Helper()
	if got := l.Dropped(); got != want {
		t.Errorf("%s: %d dropped, want %d", what, got, want)
	}
}

func wantValues(t *testing.T, what string, got, want lcp.Values) {
	t.Helper()
	if got != want {
		t.Errorf("%s: %+v, want %+v", what, got, want)
	}
}

// wantAgreed wants the values of both ends.
func wantAgreed(t *testing.T, what string, l *lcp.Lcp, mine, peer lcp.Values) {
	t.Helper()
	wantValues(t, what+": Mine", l.Mine(), mine)
	wantValues(t, what+": Peer", l.Peer(), peer)
}

// usual is the values that nothing states.
func usual() lcp.Values { return lcp.Values{Mru: 1500, Accm: 0xffffffff} }

// wantDrop wants that a packet does nothing but count.
func wantDrop(t *testing.T, what string, l *lcp.Lcp, p api.Packet) {
	t.Helper()
	what += ": " + toldPacket(p)
	state, mine, peer, dropped := l.State(), l.Mine(), l.Peer(), l.Dropped()
	wantOut(t, what, l.Input(p), lcp.Out{})
	wantState(t, what, l, state)
	wantAgreed(t, what, l, mine, peer)
	wantDropped(t, what, l, dropped+1)
}

// wantInput wants what comes of a packet, which is not dropped.
func wantInput(t *testing.T, what string, l *lcp.Lcp, p api.Packet, want lcp.Out, next int) {
	t.Helper()
	what += ": " + toldPacket(p)
	dropped := l.Dropped()
	wantOut(t, what, l.Input(p), want)
	wantState(t, what, l, next)
	wantDropped(t, what, l, dropped)
}

func newLcp(t *testing.T, c api.Config, magic uint32) *lcp.Lcp {
	t.Helper()
	l, err := lcp.New(c, magic)
	if err != api.OK || l == nil {
		t.Fatalf("New(%+v, %X): %v, %d", c, magic, l, err)
	}
	return l
}

// begun is an Lcp that has sent its first request.
func begun(t *testing.T, c api.Config, magic uint32) *lcp.Lcp {
	t.Helper()
	l := newLcp(t, c, magic)
	wantOut(t, "LayerStart", l.Do(api.Open), start(lcp.Out{}))
	wantOut(t, "the first request", l.Do(api.Up), sends(request(1, lcp.Ask(c, magic)...)))
	return l
}

const states = api.Opened + 1

// call is an event for Do, or a packet for Input.
type call struct {
	event int // -1: the packet
	p     api.Packet
}

// path is the calls by which a new Lcp gets to a state, and its last own
// identifier there. Its peer has asked for given where that had to be
// acknowledged.
func path(c api.Config, drawn uint32, state int, given ...api.Option) ([]call, int) {
	do := func(event int) call { return call{event: event} }
	input := func(p api.Packet) call { return call{event: -1, p: p} }
	asked := []call{do(api.Open), do(api.Up)}
	acked, answered := input(request(200, given...)), input(ack(1, lcp.Ask(c, drawn)...))
	switch state {
	case api.Initial:
		return nil, 0
	case api.Starting:
		return asked[:1], 0
	case api.Closed:
		return asked[1:], 0
	case api.Stopped:
		return append(asked, input(plain(api.CodeRej, 9, 1))), 1
	case api.Closing:
		return append(asked, do(api.Close)), 2
	case api.Stopping:
		return append(asked, do(api.Close), do(api.Open)), 2
	case api.AckRcvd:
		return append(asked, answered), 1
	case api.AckSent:
		return append(asked, acked), 1
	case api.Opened:
		return append(asked, acked, answered), 1
	}
	return asked, 1
}

// in is an Lcp in a state, and its last own identifier.
func in(t *testing.T, c api.Config, drawn uint32, state int, given ...api.Option) (*lcp.Lcp, int) {
	t.Helper()
	l := newLcp(t, c, drawn)
	calls, id := path(c, drawn, state, given...)
	for _, x := range calls {
		if x.event < 0 {
			l.Input(x.p)
		} else {
			l.Do(x.event)
		}
	}
	wantState(t, "on the way", l, state)
	wantDropped(t, "on the way", l, 0)
	return l, id
}

// roomy is a copy with room behind it, which is filled so that a write shows.
func roomy(b []byte) []byte {
	c := slices.Grow(slices.Clone(b), 8)
	for i := len(b); i < cap(c); i++ {
		c[:cap(c)][i] = 0xa5
	}
	return c
}

func scribble(b []byte) {
	for i := range b[:cap(b)] {
		b[:cap(b)][i] ^= 0xff
	}
}

func scribblePackets(l []api.Packet) {
	for i := range l[:cap(l)] {
		scribble(l[:cap(l)][i].Data)
		l[:cap(l)][i] = plain(77, 7)
	}
}
