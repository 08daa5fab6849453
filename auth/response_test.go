package auth_test

import (
	"fmt"
	"math"
	"slices"
	"testing"

	"fairlead/api"
	"fairlead/auth"
)

// example is the exchange of which chapter 9 has the numbers.
func example() exchange {
	return exchange{[]byte("[]|}{?/><,`!2&&("), []byte("!@#$%^&*()_+:3|~"), "User", "clientPass"}
}

// exampleData is the Data of the Response of that exchange, written by hand.
func exampleData() []byte {
	return slices.Concat([]byte{0x31}, []byte("!@#$%^&*()_+:3|~"), make([]byte, 8), []byte{
		0x82, 0x30, 0x9e, 0xcd, 0x8d, 0x70, 0x8b, 0x5e, 0xa0, 0x8f, 0xaa, 0x39,
		0x81, 0xcd, 0x83, 0x54, 0x42, 0x33, 0x11, 0x4a, 0x3d, 0x85, 0xd6, 0xdf,
	}, []byte{0}, []byte("User"))
}

const exampleText = "S=407A5589115FD0D6209F510FE9C04566932CDA56 M=ok"

// P15.2, P15.3: the bytes of a whole exchange.
func TestBytesOfAnExchange(t *testing.T) {
	s, c := newServer(t, "gate", "clientPass", 1, 1), newClient(t, "User", "clientPass")
	c.Draw(example().peer)
	asked := api.Packet{Code: 1, Id: 1, Data: []byte("\x10[]|}{?/><,`!2&&(gate")}
	answered := api.Packet{Code: 2, Id: 1, Data: exampleData()}
	wantOut(t, "P15.2", s.Begin(example().asked), sends(asked))
	wantOut(t, "P15.3", c.Input(asked), sends(answered))
	wantOut(t, "P15.2", s.Input(answered), done(sends(api.Packet{Code: 3, Id: 1, Data: []byte(exampleText)})))
	wantOut(t, "P15.3", c.Input(api.Packet{Code: 3, Id: 1, Data: []byte(exampleText)}), done(auth.Out{}))
	wantEnd(t, "P15.4", s, auth.Good, exampleData()[25:49])
	wantEnd(t, "P15.4", c, auth.Good, exampleData()[25:49])

	s.Begin(example().asked)
	answered.Data[48] ^= 1
	answered.Id = 2
	refused := api.Packet{Code: 4, Id: 2, Data: []byte("E=691 R=0 V=3 M=no")}
	wantOut(t, "P15.2", s.Input(answered), done(sends(refused)))
	wantEnd(t, "P15.4", s, auth.Bad, nil)
}

// P15.2: a Response ahead of the first Begin, with the identifiers that nothing
// sent yet might have.
func TestResponseAheadOfBegin(t *testing.T) {
	s := newServer(t, "server", "secret", 2, 2)
	for _, id := range []int{-1, 0, 1, 2, 255, 256} {
		wantIgnored(t, "P15.2: ahead of Begin", s, usual().response(id))
		wantIgnored(t, "P15.2: ahead of Begin", s, exchange{make([]byte, 16), drawn(2), "client", "secret"}.response(id))
		wantIgnored(t, "P15.2: ahead of Begin", s, wrong(id))
		wantIgnored(t, "P15.2: ahead of Begin", s, api.Packet{Code: auth.Response, Id: id})
	}
	wantEmpty(t, "P15.2: no timer runs", s.Tick())
	wantOut(t, "P15.2: the first Begin", s.Begin(drawn(1)), sends(challenge(1, drawn(1), "server")))
}

// P15.2: the identifier is that of the last Challenge, and no other.
func TestIdentifierOfAResponse(t *testing.T) {
	for _, good := range []bool{true, false} {
		s := begun(t, 9, 1)
		s.Tick()
		s.Begin(drawn(1))
		s.Tick() // identifier 4
		packet := usual().response
		if !good {
			packet = wrong
		}
		for id := -300; id < 600; id++ {
			if id != 4 {
				wantIgnored(t, "P15.2: another identifier", s, packet(id))
			}
		}
		for _, id := range []int{math.MinInt, 1<<32 + 4, math.MaxInt} {
			wantIgnored(t, "P15.2: another identifier", s, packet(id))
		}
		wantOut(t, "P15.2: the timer goes on", s.Tick(), sends(challenge(5, drawn(1), "server")))
		wantIgnored(t, "P15.2: an older identifier", s, packet(4))
		state := auth.Bad
		if good {
			state = auth.Good
		}
		wantOut(t, "P15.2: the last identifier", s.Input(packet(5)), done(sends(verdict(state, 5))))
		wantEnd(t, "P15.2", s, state, usual().answer())
	}
}

// P15.2: Data of all lengths. What is judged is the answer alone.
func TestSizeOfAResponse(t *testing.T) {
	for _, unit := range []byte{'n', 0, 0xff} {
		for size := range 180 {
			s := begun(t, 1, 1)
			f := fields{first: 0x31, peer: drawn(2), answer: make([]byte, 24), name: text(string([]byte{unit}), max(size-50, 0))}
			what := fmt.Sprintf("P15.2: %d bytes", size)
			if size < 50 {
				wantIgnored(t, what, s, api.Packet{Code: 2, Id: 1, Data: f.data()[:size]})
				continue
			}
			if size > 50+64 {
				wantIgnored(t, what, s, api.Packet{Code: 2, Id: 1, Data: f.data()})
				continue
			}
			x := exchange{drawn(1), drawn(2), f.name, "secret"}
			wantOut(t, what, s.Input(x.response(1)), done(sends(success(1, x.proof()+okText))))
			wantEnd(t, what, s, auth.Good, x.answer())

			s.Begin(drawn(1))
			wantOut(t, what, s.Input(api.Packet{Code: 2, Id: 2, Data: f.data()}), done(sends(failure(2, badText))))
			wantEnd(t, what, s, auth.Bad, nil)
		}
	}
	s := begun(t, 1, 1)
	for _, size := range []int{115, 1000, 1496, 1497, 1 << 16} {
		wantIgnored(t, "P15.2: a long name", s, response(1, drawn(2), make([]byte, 24), text("n", size-50)))
	}
	wantOut(t, "P15.2: behind those", s.Input(usual().response(1)), done(sends(verdict(auth.Good, 1))))
}

// P15.2: the first byte, the eight zero bytes and the single one have one value
// each; whether the answer is right does not count where one of them has not.
func TestFixedBytesOfAResponse(t *testing.T) {
	for _, answer := range [][]byte{usual().answer(), make([]byte, 24)} {
		s := begun(t, 1, 1)
		for value := range 256 {
			f := fields{first: byte(value), peer: drawn(2), answer: answer, name: "client"}
			if value != 0x31 {
				wantIgnored(t, "P15.2: the first byte", s, api.Packet{Code: 2, Id: 1, Data: f.data()})
			}
			if value == 0 {
				continue
			}
			f.first = 0x31
			for at := range f.reserved {
				f.reserved = [8]byte{}
				f.reserved[at] = byte(value)
				wantIgnored(t, "P15.2: a zero byte", s, api.Packet{Code: 2, Id: 1, Data: f.data()})
			}
			f.reserved, f.flags = [8]byte{}, byte(value)
			wantIgnored(t, "P15.2: the single zero byte", s, api.Packet{Code: 2, Id: 1, Data: f.data()})
		}
		wantOut(t, "P15.2: the timer goes on", s.Tick(), done(auth.Out{}))
	}
}

// P15.2: each turned bit of an answer, and of what the answer is made with.
func TestTurnedBits(t *testing.T) {
	x := usual()
	for bit := range 8 * 49 {
		if at := bit / 8; at == 0 || at > 16 && at < 25 {
			continue // the first byte and the zero bytes
		}
		s := begun(t, 1, 1)
		p := x.response(1)
		p.Data[bit/8] ^= 1 << (bit % 8)
		what := fmt.Sprintf("P15.2: bit %d", bit)
		wantOut(t, what, s.Input(p), done(sends(failure(1, badText))))
		wantEnd(t, what, s, auth.Bad, nil)
		wantEmpty(t, what+": the timer stops", s.Tick())
	}
	for bit := range 128 {
		asked := drawn(1)
		asked[bit/8] ^= 1 << (bit % 8)
		s := newServer(t, "server", "secret", 1, 1)
		s.Begin(asked)
		what := fmt.Sprintf("P15.2: bit %d of the challenge", bit)
		wantOut(t, what, s.Input(x.response(1)), done(sends(failure(1, badText))))
		y := exchange{asked, x.peer, x.name, x.secret}
		s.Begin(asked)
		wantOut(t, what, s.Input(y.response(2)), done(sends(success(2, y.proof()+okText))))
		wantEnd(t, what, s, auth.Good, y.answer())
	}
}

// P15.2: the name is that in the packet: an answer is right for the bare name
// that it was made with, whoever it is, and for no other.
func TestNameOfAResponse(t *testing.T) {
	names := []string{"", "client", "server", "Client", "client\x00", "\xff\xfe", "é", text("n", 64)}
	for _, made := range names {
		for _, told := range append(names, `BIGCO\client`, `\client`, `client\`, `\`, `a\b\server`, text(`\`, 58)+"client") {
			x := exchange{drawn(1), drawn(2), made, "secret"}
			s := begun(t, 1, 1)
			p := response(1, x.peer, x.answer(), told)
			if bare(told) == made {
				wantOut(t, "P15.2: "+told, s.Input(p), done(sends(success(1, x.proof()+okText))))
				wantEnd(t, "P15.2: "+told, s, auth.Good, x.answer())
			} else {
				wantOut(t, "P15.2: "+told, s.Input(p), done(sends(failure(1, badText))))
				wantEnd(t, "P15.2: "+told, s, auth.Bad, nil)
			}
		}
	}
}

// bare is what a name has behind its last backslash.
func bare(name string) string {
	for i := len(name) - 1; i >= 0; i-- {
		if name[i] == '\\' {
			return name[i+1:]
		}
	}
	return name
}

// P15.2: the secret of a server is the one that counts.
func TestSecretOfAServer(t *testing.T) {
	list := []string{"", "secret", "Secret", "secret ", "\x00", "é\U0001f600", text("s", 256), text("\U0001f600", 128)}
	for _, has := range list {
		for _, shows := range list {
			s := newServer(t, "server", has, 1, 1)
			s.Begin(drawn(1))
			x := exchange{drawn(1), drawn(2), "client", shows}
			out, state := sends(failure(1, badText)), auth.Bad
			if has == shows {
				out, state = sends(success(1, x.proof()+okText)), auth.Good
			}
			wantOut(t, "P15.2: a secret", s.Input(x.response(1)), done(out))
			wantEnd(t, "P15.2: a secret", s, state, x.answer())
		}
	}
}

// P15.2: the Response that was judged gets the same answer again, as often as it
// comes; any other is ignored.
func TestResponseAgain(t *testing.T) {
	for _, state := range []int{auth.Good, auth.Bad} {
		s, p := judged(t, state)
		what := fmt.Sprintf("P15.2: in state %d", state)
		again := func() {
			t.Helper()
			wantOut(t, what+": again", s.Input(api.Packet{Code: p.Code, Id: p.Id, Data: slices.Clone(p.Data)}), sends(verdict(state, 1)))
			wantEnd(t, what, s, state, usual().answer())
		}
		again()
		again()
		for id := -3; id < 300; id++ {
			if id != 1 {
				wantIgnored(t, what+": another identifier", s, api.Packet{Code: p.Code, Id: id, Data: p.Data})
			}
		}
		again()
		for at := range p.Data {
			for _, turned := range []byte{1, 0x80, 0xff} {
				other := slices.Clone(p.Data)
				other[at] ^= turned
				wantIgnored(t, what+": another byte", s, api.Packet{Code: p.Code, Id: p.Id, Data: other})
			}
			wantIgnored(t, what+": fewer bytes", s, api.Packet{Code: p.Code, Id: p.Id, Data: p.Data[:at]})
		}
		wantIgnored(t, what+": a further byte", s, api.Packet{Code: p.Code, Id: p.Id, Data: append(slices.Clone(p.Data), 'x')})
		wantIgnored(t, what+": a further zero byte", s, api.Packet{Code: p.Code, Id: p.Id, Data: append(slices.Clone(p.Data), 0)})
		wantIgnored(t, what+": a right one", s, exchange{drawn(1), drawn(3), "client", "secret"}.response(1))
		wantIgnored(t, what+": another wrong one", s, exchange{drawn(1), drawn(3), "client", "Secret"}.response(1))
		for range 10 {
			wantEmpty(t, what+": no timer runs", s.Tick())
			again()
		}
	}
}

// P15.2: a Response that was judged ahead of another Begin was not judged by that
// one, also where its identifier comes round again.
func TestResponseOfAnotherBegin(t *testing.T) {
	for _, state := range []int{auth.Good, auth.Bad} {
		s, p := judged(t, state)
		for range 256 {
			s.Begin(drawn(1))
		}
		what := fmt.Sprintf("P15.2: 256 Challenges behind state %d", state)
		wantOut(t, what, s.Input(p), done(sends(verdict(state, 1))))
	}
	for _, state := range []int{auth.Good, auth.Bad} {
		s, p := judged(t, state)
		for range 254 {
			s.Begin(drawn(1))
		}
		for range 6 {
			s.Tick()
		}
		wantEnd(t, "P15.2: the last Challenge had identifier 1, and no Response", s, auth.Bad, nil)
		wantIgnored(t, "P15.2: what another Begin judged", s, p)
	}
}

// P15.2: packets of every other code, in each state.
func TestOtherCodesAtAServer(t *testing.T) {
	for state := range states {
		s, p := judged(t, state)
		if state == auth.Waiting {
			p = usual().response(1)
		}
		for code := -2; code < 300; code++ {
			if code == 2 {
				continue
			}
			for _, data := range [][]byte{nil, p.Data, challenge(1, drawn(1), "server").Data, []byte(exampleText), {1}} {
				for _, id := range []int{0, 1, 2} {
					wantIgnored(t, "P15.2: another code", s, api.Packet{Code: code, Id: id, Data: data})
				}
			}
		}
		for _, code := range []int{math.MinInt, 258, -254, 1<<32 + 2, math.MaxInt} {
			wantIgnored(t, "P15.2: another code", s, api.Packet{Code: code, Id: 1, Data: p.Data})
		}
		if state == auth.Waiting {
			wantEmpty(t, "P15.2: the timer goes on", s.Tick())
			wantOut(t, "P15.2: the timer goes on", s.Tick(), sends(challenge(2, drawn(1), "server")))
		} else {
			wantOut(t, "P15.2: behind those", s.Input(p), sends(verdict(state, 1)))
		}
	}
}
