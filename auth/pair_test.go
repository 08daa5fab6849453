package auth_test

import (
	"fmt"
	"math/rand/v2"
	"testing"

	"fairlead/api"
	"fairlead/auth"
)

// line is a server and a client, and the line between them.
type line struct {
	server *auth.Server
	client *auth.Client
	loses  func(p api.Packet) bool
	passed [5]int // of each code
	done   [2]int // how often each end told that it is done
}

func newLine(t *testing.T, has, shows string, tries, timeout int, loses func(p api.Packet) bool) *line {
	t.Helper()
	x := &line{server: newServer(t, "server", has, tries, timeout), client: newClient(t, `HOME\client`, shows), loses: loses}
	x.client.Draw(drawn(2))
	return x
}

// carry brings what the server or the client sends to the other one, and what
// comes of that back, until nothing is sent or it is lost.
func (x *line) carry(out auth.Out, byServer bool) {
	for {
		if out.Done {
			x.done[btoi(!byServer)]++
		}
		if len(out.Send) == 0 || x.loses(out.Send[0]) {
			return
		}
		p := out.Send[0]
		x.passed[p.Code]++
		if byServer {
			out = x.client.Input(p)
		} else {
			out = x.server.Input(p)
		}
		byServer = !byServer
	}
}

func btoi(b bool) int {
	if b {
		return 1
	}
	return 0
}

// run lets a server demand a proof, and time pass until it has one or gives up.
func (x *line) run(begin, most int) {
	x.carry(x.server.Begin(drawn(begin)), true)
	for range most {
		x.carry(x.server.Tick(), true)
	}
}

func nothing(api.Packet) bool { return false }

// wantAgreed wants that both are Good, with one Answer of 24 bytes.
func (x *line) wantAgreed(t *testing.T, what string) {
	t.Helper()
	answer := x.server.Answer()
	if len(answer) != 24 {
		t.Errorf("P15.4: %s: Answer %X", what, answer)
	}
	wantEnd(t, "P15.4: "+what+": the server", x.server, auth.Good, answer)
	wantEnd(t, "P15.4: "+what+": the client", x.client, auth.Good, answer)
}

// wantNever wants that neither is Good.
func (x *line) wantNever(t *testing.T, what string) {
	t.Helper()
	for i, e := range []end{x.server, x.client} {
		if e.State() == auth.Good || len(e.Answer()) > 0 {
			t.Errorf("P15.4: %s: end %d: state %d, Answer %X", what, i, e.State(), e.Answer())
		}
	}
}

// P15.4: nothing is lost.
func TestLineThatLosesNothing(t *testing.T) {
	x := newLine(t, "secret", "secret", 1, 1, nothing)
	for begin := range 600 {
		x.run(begin, 3)
		x.wantAgreed(t, "nothing is lost")
		n := begin + 1
		if x.passed != [5]int{0, n, n, n, 0} || x.done != [2]int{n, n} {
			t.Errorf("P15.4: behind %d proofs, %v passed, done %v", n, x.passed, x.done)
		}
	}
	x = newLine(t, "secret", "Secret", 1, 1, nothing)
	for begin := range 600 {
		x.run(begin, 3)
		x.wantNever(t, "two secrets")
		wantEnd(t, "P15.4: two secrets: the server", x.server, auth.Bad, nil)
		wantEnd(t, "P15.4: two secrets: the client", x.client, auth.Bad, nil)
		n := begin + 1
		if x.passed != [5]int{0, n, n, 0, n} || x.done != [2]int{n, n} {
			t.Errorf("P15.4: behind %d proofs, %v passed, done %v", n, x.passed, x.done)
		}
	}
}

// P15.4: everything is lost.
func TestLineThatLosesEverything(t *testing.T) {
	sent := 0
	x := newLine(t, "secret", "secret", 4, 3, func(api.Packet) bool { sent++; return true })
	x.run(1, 11)
	wantEnd(t, "P15.4: the server, as long as attempts are left", x.server, auth.Waiting, nil)
	x.carry(x.server.Tick(), true)
	wantEnd(t, "P15.4: the server, when none is left", x.server, auth.Bad, nil)
	wantEnd(t, "P15.4: the client", x.client, auth.Waiting, nil)
	if sent != 4 || x.done != [2]int{1, 0} {
		t.Errorf("P15.4: %d sent, done %v", sent, x.done)
	}
}

// P15.4: the first packets of a kind are lost, as many as there are attempts, and
// one fewer.
func TestLineThatLosesTheFirst(t *testing.T) {
	for code := auth.Challenge; code <= auth.Response; code++ {
		for tries := 1; tries < 6; tries++ {
			for lost := range tries + 1 {
				what := fmt.Sprintf("the first %d of code %d are lost, with %d tries", lost, code, tries)
				left := lost
				x := newLine(t, "secret", "secret", tries, 2, func(p api.Packet) bool {
					if p.Code != code {
						return false
					}
					left--
					return left >= 0
				})
				x.run(1, 2*tries)
				if lost < tries {
					x.wantAgreed(t, what)
					continue
				}
				wantEnd(t, "P15.4: "+what, x.server, auth.Bad, nil)
				wantEnd(t, "P15.4: "+what, x.client, auth.Waiting, nil)
			}
		}
	}
}

// P15.4: the Success is lost. The server waits for nothing any more, so that only
// a Challenge that comes again, or another proof, brings it to the client.
func TestLineThatLosesTheSuccess(t *testing.T) {
	lost := false
	loses := func(p api.Packet) bool {
		first := !lost && p.Code == auth.Success
		lost = lost || first
		return first
	}
	x := newLine(t, "secret", "secret", 3, 2, loses)
	x.run(1, 10)
	wantEnd(t, "P15.4: the server", x.server, auth.Good, right(drawn(1), drawn(2), "client", "secret"))
	wantEnd(t, "P15.4: the client", x.client, auth.Waiting, nil)
	x.carry(sends(challenge(1, drawn(1), "server")), true)
	x.wantAgreed(t, "the Challenge comes again")

	lost = false
	x = newLine(t, "secret", "secret", 3, 2, loses)
	x.run(1, 10)
	x.run(3, 10)
	x.wantAgreed(t, "another proof")
}

// P15.4: some of what is sent is lost, with one secret and with two, and several
// proofs one behind the other.
func TestLineThatLosesSome(t *testing.T) {
	r := rand.New(rand.NewPCG(15, 4))
	var agreed, late int
	for round := range 3000 {
		chance := r.Float64()
		success := false // lost
		tries, timeout := 1+r.IntN(8), 1+r.IntN(4)
		has, shows := anySecret(r), anySecret(r)
		x := newLine(t, has, shows, tries, timeout, func(p api.Packet) bool {
			lost := r.Float64() < chance
			success = success || lost && p.Code == auth.Success
			return lost
		})
		for begin := range 3 {
			what := fmt.Sprintf("round %d, proof %d", round, begin)
			success = false
			answered := x.passed[auth.Response]
			x.run(begin, tries*timeout)
			heard := x.passed[auth.Response] > answered
			switch {
			case has != shows:
				x.wantNever(t, what)
				wantEnd(t, "P15.4: "+what, x.server, auth.Bad, nil)
			case !heard:
				late++
				wantEnd(t, "P15.4: "+what+": no attempt is left", x.server, auth.Bad, nil)
			case !success:
				agreed++
				x.wantAgreed(t, what)
			default:
				wantEnd(t, "P15.4: "+what, x.server, auth.Good, right(drawn(begin), drawn(2), "client", has))
			}
		}
	}
	if agreed < 500 || late < 500 {
		t.Errorf("%d agreed, %d had no attempt left", agreed, late)
	}
}

// P15.4: with two secrets, nothing that the ends themselves send makes either
// Good, in whatever order and however often it comes.
func TestTwoSecretsInAnyOrder(t *testing.T) {
	r := rand.New(rand.NewPCG(15, 5))
	for range 300 {
		x := newLine(t, "secret", "Secret", 3, 1, nothing)
		sent := x.server.Begin(drawn(1)).Send
		for range 60 {
			p := sent[r.IntN(len(sent))]
			switch r.IntN(6) {
			case 0:
				sent = append(sent, x.server.Tick().Send...)
			case 1:
				sent = append(sent, x.server.Begin(drawn(r.IntN(3))).Send...)
			case 2, 3:
				sent = append(sent, x.server.Input(p).Send...)
			default:
				sent = append(sent, x.client.Input(p).Send...)
			}
			x.wantNever(t, "two secrets, in any order")
		}
	}
}
