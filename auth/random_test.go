package auth_test

import (
	"fmt"
	"math/rand/v2"
	"slices"
	"testing"

	"fairlead/api"
	"fairlead/auth"
)

func anyBytes(r *rand.Rand, size int) []byte {
	b := make([]byte, size)
	for i := range b {
		b[i] = byte(r.IntN(256))
	}
	return b
}

func one[T any](r *rand.Rand, l []T) T { return l[r.IntN(len(l))] }

// anyDrawn draws 16 bytes, and seldom some more or fewer.
func anyDrawn(r *rand.Rand) []byte {
	switch r.IntN(8) {
	case 0:
		return anyBytes(r, r.IntN(40))
	case 1:
		return anyBytes(r, 15+2*r.IntN(2))
	}
	return drawn(r.IntN(4))
}

func anyName(r *rand.Rand) string {
	return one(r, []string{"", "client", "server", `BIGCO\client`, text("n", 64), "\xff"})
}

func anySecret(r *rand.Rand) string { return one(r, []string{"secret", "Secret"}) }

// mutated is a packet with a change in it, or as it is.
func mutated(r *rand.Rand, p api.Packet) api.Packet {
	p.Data = slices.Clone(p.Data)
	switch r.IntN(12) {
	case 0:
		p.Id = (p.Id + r.IntN(5) - 2) & 255
	case 1:
		p.Data = append(p.Data, anyBytes(r, r.IntN(70))...)
	case 2:
		p.Data = p.Data[:r.IntN(len(p.Data)+1)]
	case 3:
		if len(p.Data) > 0 {
			p.Data[r.IntN(len(p.Data))] ^= 1 << r.IntN(8)
		}
	case 4:
		p.Code = r.IntN(7)
	}
	return p
}

// twin is an end and its model, on which the same calls are made.
type twin struct {
	end   end
	model interface {
		input(p api.Packet) auth.Out
	}
	state  func() (int, []byte) // of the model
	done   []string
	heard  []api.Packet
	visits *[states]int
}

// same tells whether a call led to the same on both, and scribbles all over what
// the end handed out.
func (x *twin) same(t *testing.T, call string, got, want auth.Out) bool {
	t.Helper()
	x.done = append(x.done, call)
	state, answer := x.state()
	if state != auth.Good {
		answer = nil
	}
	ok := toldOut(got) == toldOut(want) && x.end.State() == state && slices.Equal(x.end.Answer(), answer)
	if !ok {
		t.Errorf("P15.2, P15.3, P15.4: after %q: %s, state %d, Answer %X, want %s, state %d, Answer %X", x.done[max(len(x.done)-12, 0):],
			toldOut(got), x.end.State(), x.end.Answer(), toldOut(want), state, answer)
	}
	scribbleOut(got)
	scribble(x.end.Answer())
	x.visits[state]++
	return ok
}

// input makes one packet come in, or one that has come in before.
func (x *twin) input(t *testing.T, r *rand.Rand, p api.Packet) bool {
	t.Helper()
	if len(x.heard) > 0 && r.IntN(4) == 0 {
		p = x.heard[max(len(x.heard)-1-r.IntN(4), 0)]
	}
	x.heard = append(x.heard, api.Packet{Code: p.Code, Id: p.Id, Data: slices.Clone(p.Data)})
	in := api.Packet{Code: p.Code, Id: p.Id, Data: roomy(p.Data)}
	before := whole(in.Data)
	got := x.end.Input(in)
	if whole(in.Data) != before {
		t.Errorf("R4: Input changed %s", toldPacket(p))
	}
	scribble(in.Data)
	return x.same(t, "Input"+toldPacket(p), got, x.model.input(p))
}

// handIn calls a function with bytes, and scribbles on them behind the call.
func handIn(t *testing.T, b []byte, call func(b []byte)) {
	t.Helper()
	in := roomy(b)
	before := whole(in)
	call(in)
	if whole(in) != before {
		t.Errorf("R4: what was handed in, %X, was changed", b)
	}
	scribble(in)
}

// anyResponse draws a Response to the last Challenge of a server, more often one
// that is right.
func (m *serverModel) anyResponse(r *rand.Rand) api.Packet {
	id, asked := 0, drawn(0)
	if len(m.asked) > 0 {
		id, asked = m.asked[len(m.asked)-1].Id, m.challenge
	}
	x := exchange{asked, drawn(r.IntN(3)), anyName(r), m.secret}
	switch r.IntN(6) {
	case 0:
		x.secret = anySecret(r)
	case 1:
		return response(id, x.peer, anyBytes(r, 24), x.name)
	case 2:
		return response(id, x.peer, x.answer(), anyName(r))
	}
	return x.response(id)
}

// P15.2 and P15.4, with R4 and R5: long random sequences of calls of a server
// against the words.
func TestAnyCallsOfAServer(t *testing.T) {
	r := rand.New(rand.NewPCG(15, 2))
	var visits [states]int
	for range 1500 {
		name, secret, tries, timeout := anyName(r), anySecret(r), 1+r.IntN(4), 1+r.IntN(4)
		s, m := newServer(t, name, secret, tries, timeout), newServerModel(name, secret, tries, timeout)
		x := &twin{end: s, model: m, state: func() (int, []byte) { return m.state, m.answer }, visits: &visits}
		for range 20 + r.IntN(100) {
			ok := true
			switch n := r.IntN(10); {
			case n == 0:
				b := anyDrawn(r)
				handIn(t, b, func(in []byte) { ok = x.same(t, fmt.Sprintf("Begin(%X)", b), s.Begin(in), m.begin(b)) })
			case n < 4:
				ok = x.same(t, "Tick", s.Tick(), m.tick())
			default:
				ok = x.input(t, r, mutated(r, m.anyResponse(r)))
			}
			if !ok {
				return
			}
		}
	}
	wantVisits(t, visits)
}

func wantVisits(t *testing.T, visits [states]int) {
	t.Helper()
	for state, n := range visits {
		if n < 5000 {
			t.Errorf("state %d was visited %d times", state, n)
		}
	}
}

// anyPacket draws a Challenge or a verdict on the last Response of a client, more
// often a Success that proves the secret.
func (m *clientModel) anyPacket(r *rand.Rand) api.Packet {
	if len(m.sent) == 0 || r.IntN(3) == 0 {
		return challenge(r.IntN(5), drawn(r.IntN(3)), anyName(r))
	}
	last := m.sent[len(m.sent)-1]
	good := proof(m.secret, m.answer, last.Data[1:17], m.asked, m.name)
	switch r.IntN(6) {
	case 0:
		return failure(last.Id, one(r, []string{badText, "", good}))
	case 1:
		return success(last.Id, proof(anySecret(r), m.answer, drawn(r.IntN(3)), m.asked, m.name)+okText)
	case 2:
		return api.Packet{Code: r.IntN(7), Id: last.Id, Data: last.Data}
	}
	return success(last.Id, good+one(r, []string{okText, "", " ", "x", "M=ok"}))
}

// P15.3 and P15.4, with R4 and R5: long random sequences of calls of a client
// against the words.
func TestAnyCallsOfAClient(t *testing.T) {
	r := rand.New(rand.NewPCG(15, 3))
	var visits [states]int
	for range 1500 {
		name, secret := anyName(r), anySecret(r)
		c, m := newClient(t, name, secret), newClientModel(name, secret)
		x := &twin{end: c, model: m, state: func() (int, []byte) { return m.state, m.answer }, visits: &visits}
		for range 10 + r.IntN(50) {
			ok := true
			if r.IntN(8) == 0 {
				b := anyDrawn(r)
				handIn(t, b, func(in []byte) { c.Draw(in) })
				m.draw(b)
				ok = x.same(t, fmt.Sprintf("Draw(%X)", b), auth.Out{}, auth.Out{})
			} else {
				ok = x.input(t, r, mutated(r, m.anyPacket(r)))
			}
			if !ok {
				return
			}
		}
	}
	wantVisits(t, visits)
}
