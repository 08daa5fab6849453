package nego_test

import (
	"fmt"
	"slices"
	"strings"
	"testing"

	"fairlead/api"
	"fairlead/nego"
	"fairlead/packet"
)

func opt(kind int, data ...byte) api.Option { return api.Option{Type: kind, Data: data} }

func list(l ...api.Option) []api.Option { return l }

// bytesOf is the bytes of options that have an encoding.
func bytesOf(l ...api.Option) []byte {
	b, err := packet.Options(l)
	if err != api.OK {
		panic(err)
	}
	return b
}

func request(id int, l ...api.Option) api.Packet {
	return api.Packet{Code: api.ConfReq, Id: id, Data: bytesOf(l...)}
}

func ack(id int, l ...api.Option) api.Packet {
	return api.Packet{Code: api.ConfAck, Id: id, Data: bytesOf(l...)}
}

func nak(id int, l ...api.Option) api.Packet {
	return api.Packet{Code: api.ConfNak, Id: id, Data: bytesOf(l...)}
}

func reject(id int, l ...api.Option) api.Packet {
	return api.Packet{Code: api.ConfRej, Id: id, Data: bytesOf(l...)}
}

func plain(code, id int, data ...byte) api.Packet {
	return api.Packet{Code: code, Id: id, Data: data}
}

func toldOptions(l []api.Option) string {
	var s strings.Builder
	for _, o := range l {
		fmt.Fprintf(&s, "[%d: %X]", o.Type, o.Data)
	}
	return "{" + s.String() + "}"
}

func toldRule(r nego.Rule) string {
	return fmt.Sprintf("(type %d, how %d, len %d, %X to %X, want %X, need %v)", r.Type, r.How, r.Len, r.Lo, r.Hi, r.Want, r.Need)
}

// toldOut is all that an Out holds, the same text for nil and empty lists.
func toldOut(out nego.Out) string {
	var s strings.Builder
	for _, p := range out.Send {
		fmt.Fprintf(&s, "(%d #%d %X) ", p.Code, p.Id, p.Data)
	}
	for _, flag := range []struct {
		name string
		is   bool
	}{{"Up ", out.Up}, {"Down ", out.Down}, {"Start ", out.Start}, {"Done ", out.Done}} {
		if flag.is {
			s.WriteString(flag.name)
		}
	}
	return s.String()
}

func sends(l ...api.Packet) nego.Out { return nego.Out{Send: l} }

func wantOptions(t *testing.T, what string, got, want []api.Option) {
	t.Helper()
	if !packet.Same(got, want) {
		t.Errorf("%s: %s, want %s", what, toldOptions(got), toldOptions(want))
	}
}

func wantOut(t *testing.T, what string, got, want nego.Out) {
	t.Helper()
	if toldOut(got) != toldOut(want) {
		t.Errorf("%s: %s, want %s", what, toldOut(got), toldOut(want))
	}
}

func wantState(t *testing.T, what string, n *nego.Nego, want int) {
	t.Helper()
	if got := n.State(); got != want {
		t.Errorf("%s: state %d, want %d", what, got, want)
	}
}

func wantDropped(t *testing.T, what string, n *nego.Nego, want int) {
	t.Helper()
	if got := n.Dropped(); got != want {
		t.Errorf("%s: %d dropped, want %d", what, got, want)
	}
}

// wantAgreed wants the options of both ends.
func wantAgreed(t *testing.T, what string, n *nego.Nego, mine, given []api.Option) {
	t.Helper()
	wantOptions(t, what+": Mine", n.Mine(), mine)
	wantOptions(t, what+": Given", n.Given(), given)
}

func newNego(t *testing.T, rules []nego.Rule, ask []api.Option, tries, timeout int) *nego.Nego {
	t.Helper()
	n, err := nego.New(rules, ask, tries, timeout)
	if err != api.OK || n == nil {
		t.Fatalf("New(%d, %d): %v, %d", tries, timeout, n, err)
	}
	return n
}

// The chapter's rules, and a request.
func rules() []nego.Rule {
	return []nego.Rule{
		{Type: 1, How: nego.Range, Len: 2, Lo: 64, Hi: 1500},
		{Type: 5, How: nego.Any, Len: 4},
	}
}

func asks() []api.Option { return list(opt(1, 5, 0xdc), opt(5, 1, 2, 3, 4)) }

func good() []api.Option { return list(opt(1, 4, 0)) }
func bad() []api.Option  { return list(opt(1, 7, 0xd0)) }

// The ways from a new negotiator to each state, without a tick, and the own
// identifiers that they use.
func paths() [api.Opened + 1]func(n *nego.Nego) int {
	open := func(n *nego.Nego) int {
		n.Do(api.Open)
		n.Do(api.Up)
		return 1
	}
	return [...]func(n *nego.Nego) int{
		api.Initial:  func(n *nego.Nego) int { return 0 },
		api.Starting: func(n *nego.Nego) int { n.Do(api.Open); return 0 },
		api.Closed:   func(n *nego.Nego) int { n.Do(api.Up); return 0 },
		api.Stopped: func(n *nego.Nego) int {
			open(n)
			n.Input(plain(api.CodeRej, 9, 1))
			return 1
		},
		api.Closing: func(n *nego.Nego) int {
			open(n)
			n.Do(api.Close)
			return 2
		},
		api.Stopping: func(n *nego.Nego) int {
			open(n)
			n.Do(api.Close)
			n.Do(api.Open)
			return 2
		},
		api.ReqSent: open,
		api.AckRcvd: func(n *nego.Nego) int {
			open(n)
			n.Input(ack(1, asks()...))
			return 1
		},
		api.AckSent: func(n *nego.Nego) int {
			open(n)
			n.Input(request(200, good()...))
			return 1
		},
		api.Opened: func(n *nego.Nego) int {
			open(n)
			n.Input(request(200, good()...))
			n.Input(ack(1, asks()...))
			return 1
		},
	}
}

// in is a negotiator in a state, and its last own identifier.
func in(t *testing.T, state, tries, timeout int) (*nego.Nego, int) {
	t.Helper()
	n := newNego(t, rules(), asks(), tries, timeout)
	id := paths()[state](n)
	if n.State() != state {
		t.Fatalf("state %d, want %d", n.State(), state)
	}
	return n, id
}

// roomy is a copy with room behind it, which is filled so that a write shows.
func roomy(b []byte) []byte {
	c := slices.Grow(slices.Clone(b), 8)
	for i := len(b); i < cap(c); i++ {
		c[:cap(c)][i] = 0xa5
	}
	return c
}

func roomyOptions(l []api.Option) []api.Option {
	c := make([]api.Option, 0, len(l)+3)
	for _, o := range l {
		c = append(c, api.Option{Type: o.Type, Data: roomy(o.Data)})
	}
	for i := len(c); i < cap(c); i++ {
		c[:cap(c)][i] = opt(0xa5, 0xa5)
	}
	return c
}

func roomyRules(l []nego.Rule) []nego.Rule {
	c := make([]nego.Rule, 0, len(l)+3)
	for _, r := range l {
		r.Want = roomy(r.Want)
		c = append(c, r)
	}
	return c
}

// whole tells all of a list, up to its capacity.
func whole(l []api.Option) string {
	s := ""
	for _, o := range l[:cap(l)] {
		s += fmt.Sprintf("%d:%X ", o.Type, o.Data[:cap(o.Data)])
	}
	return s
}

func scribble(b []byte) {
	for i := range b[:cap(b)] {
		b[:cap(b)][i] ^= 0xff
	}
}

func scribbleOptions(l []api.Option) {
	for i := range l[:cap(l)] {
		scribble(l[:cap(l)][i].Data)
		l[:cap(l)][i] = opt(77, 7)
	}
}
