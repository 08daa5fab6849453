package auth_test

import (
	"bytes"
	"fmt"
	"slices"
	"strings"
	"testing"

	"fairlead/api"
	"fairlead/auth"
	"fairlead/chap"
)

// The texts of a verdict as the chapter has them.
const (
	okText  = " M=ok"
	badText = "E=691 R=0 V=3 M=no"
)

const states = auth.Bad + 1

// drawn is 16 bytes that tell from which number they were made.
func drawn(n int) []byte {
	b := make([]byte, 16)
	for i := range b {
		b[i] = byte(n*37 + i*11 + 5)
	}
	return b
}

func challenge(id int, b []byte, name string) api.Packet {
	return api.Packet{Code: 1, Id: id, Data: slices.Concat([]byte{0x10}, b, []byte(name))}
}

// fields is what the Data of a Response is made of.
type fields struct {
	first    byte
	peer     []byte
	reserved [8]byte
	answer   []byte
	flags    byte
	name     string
}

func (f fields) data() []byte {
	return slices.Concat([]byte{f.first}, f.peer, f.reserved[:], f.answer, []byte{f.flags}, []byte(f.name))
}

func response(id int, peer, answer []byte, name string) api.Packet {
	return api.Packet{Code: 2, Id: id, Data: fields{first: 0x31, peer: peer, answer: answer, name: name}.data()}
}

func success(id int, text string) api.Packet { return api.Packet{Code: 3, Id: id, Data: []byte(text)} }
func failure(id int, text string) api.Packet { return api.Packet{Code: 4, Id: id, Data: []byte(text)} }

// right is the answer by which somebody with this name shows the secret.
func right(asked, peer []byte, name, secret string) []byte {
	a, err := chap.Respond(asked, peer, name, secret)
	if err != api.OK {
		panic(err)
	}
	return a
}

func proof(secret string, answer, peer, asked []byte, name string) string {
	s, err := chap.Proof(secret, answer, peer, asked, name)
	if err != api.OK {
		panic(err)
	}
	return s
}

// exchange is one proof: what both ends have drawn, and who proves what.
type exchange struct {
	asked, peer  []byte
	name, secret string
}

func (x exchange) answer() []byte { return right(x.asked, x.peer, x.name, x.secret) }
func (x exchange) proof() string {
	return proof(x.secret, x.answer(), x.peer, x.asked, x.name)
}
func (x exchange) response(id int) api.Packet { return response(id, x.peer, x.answer(), x.name) }

// usual is the exchange of most tests, in which the server has challenge 1.
func usual() exchange { return exchange{drawn(1), drawn(2), "client", "secret"} }

func newServer(t *testing.T, name, secret string, tries, timeout int) *auth.Server {
	t.Helper()
	s, err := auth.NewServer(name, secret, tries, timeout)
	if err != api.OK || s == nil {
		t.Fatalf("NewServer(%q, %q, %d, %d): %v, %d", name, secret, tries, timeout, s, err)
	}
	return s
}

func newClient(t *testing.T, name, secret string) *auth.Client {
	t.Helper()
	c, err := auth.NewClient(name, secret)
	if err != api.OK || c == nil {
		t.Fatalf("NewClient(%q, %q): %v, %d", name, secret, c, err)
	}
	return c
}

// begun is a server with challenge 1, whose Challenge had the identifier 1.
func begun(t *testing.T, tries, timeout int) *auth.Server {
	t.Helper()
	s := newServer(t, "server", "secret", tries, timeout)
	wantOut(t, "P15.2: Begin", s.Begin(drawn(1)), sends(challenge(1, drawn(1), "server")))
	return s
}

// wrong is a Response with an answer that is not right.
func wrong(id int) api.Packet {
	x := usual()
	return response(id, x.peer, make([]byte, 24), x.name)
}

// judged is a server that has come to a state by Responses, and the Response that
// brought it there.
func judged(t *testing.T, state int) (*auth.Server, api.Packet) {
	t.Helper()
	s := begun(t, 3, 2)
	var p api.Packet
	switch state {
	case auth.Good:
		p = usual().response(1)
	case auth.Bad:
		p = wrong(1)
	default:
		return s, p
	}
	s.Input(p)
	wantEnd(t, "on the way", s, state, usual().answer())
	return s, p
}

// responding is a client that has answered challenge 1 with identifier 5.
func responding(t *testing.T) *auth.Client {
	t.Helper()
	x := usual()
	c := newClient(t, x.name, x.secret)
	c.Draw(x.peer)
	wantOut(t, "P15.3: a Challenge", c.Input(challenge(5, x.asked, "server")), sends(x.response(5)))
	wantEnd(t, "P15.3: a Challenge", c, auth.Waiting, nil)
	return c
}

// settled is a client in a state behind its Response with identifier 5.
func settled(t *testing.T, state int) *auth.Client {
	t.Helper()
	c := responding(t)
	switch state {
	case auth.Good:
		wantOut(t, "P15.3: a Success", c.Input(success(5, usual().proof())), done(auth.Out{}))
	case auth.Bad:
		wantOut(t, "P15.3: a Failure", c.Input(failure(5, badText)), done(auth.Out{}))
	}
	wantEnd(t, "on the way", c, state, usual().answer())
	return c
}

func sends(l ...api.Packet) auth.Out { return auth.Out{Send: l} }
func done(out auth.Out) auth.Out     { out.Done = true; return out }
func toldPacket(p api.Packet) string { return fmt.Sprintf("(%d #%d %X)", p.Code, p.Id, p.Data) }
func same(p, other api.Packet) bool  { return toldPacket(p) == toldPacket(other) }
func text(unit string, n int) string { return strings.Repeat(unit, n) }
func wantEmpty(t *testing.T, what string, got auth.Out) {
	t.Helper()
	wantOut(t, what, got, auth.Out{})
}

// toldOut is all that an Out holds, the same text for nil and empty lists.
func toldOut(out auth.Out) string {
	var s strings.Builder
	for _, p := range out.Send {
		s.WriteString(toldPacket(p) + " ")
	}
	if out.Done {
		s.WriteString("Done")
	}
	return s.String()
}

func wantOut(t *testing.T, what string, got, want auth.Out) {
	t.Helper()
	if toldOut(got) != toldOut(want) {
		t.Errorf("%s: %q, want %q", what, toldOut(got), toldOut(want))
	}
}

// end is what a server and a client have in common.
type end interface {
	Input(p api.Packet) auth.Out
	State() int
	Answer() []byte
}

// wantEnd wants a state, and this answer if the state is Good.
func wantEnd(t *testing.T, what string, e end, state int, answer []byte) {
	t.Helper()
	if state != auth.Good {
		answer = nil
	}
	if got := e.State(); got != state {
		t.Errorf("%s: state %d, want %d", what, got, state)
	}
	if got := e.Answer(); !bytes.Equal(got, answer) {
		t.Errorf("%s: P15.4: Answer %X, want %X", what, got, answer)
	}
}

// wantIgnored wants that a packet does nothing.
func wantIgnored(t *testing.T, what string, e end, p api.Packet) {
	t.Helper()
	what += ": " + toldPacket(p)
	state, answer := e.State(), e.Answer()
	wantOut(t, what, e.Input(p), auth.Out{})
	wantEnd(t, what, e, state, answer)
}

// roomy is a copy with room behind it, which is filled so that a write shows.
func roomy(b []byte) []byte {
	c := slices.Grow(slices.Clone(b), 8)
	for i := len(b); i < cap(c); i++ {
		c[:cap(c)][i] = 0xa5
	}
	return c
}

func whole(b []byte) string { return fmt.Sprintf("%X", b[:cap(b)]) }

func scribble(b []byte) {
	for i := range b[:cap(b)] {
		b[:cap(b)][i] ^= 0xff
	}
}

func scribbleOut(out auth.Out) {
	for i := range out.Send[:cap(out.Send)] {
		scribble(out.Send[:cap(out.Send)][i].Data)
		out.Send[:cap(out.Send)][i] = api.Packet{Code: 77, Id: 7}
	}
}
