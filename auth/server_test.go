package auth_test

import (
	"fmt"
	"testing"

	"fairlead/api"
	"fairlead/auth"
)

// The chapter's example.
func TestExample(t *testing.T) {
	s := newServer(t, "s", "secret", 1, 1)
	data := []byte{0x10, 0, 0, 0, 0, 0, 0, 0, 0, 0, 0, 0, 0, 0, 0, 0, 0, 0x73}
	wantOut(t, "P15.2", s.Begin(make([]byte, 16)), sends(api.Packet{Code: 1, Id: 1, Data: data}))
}

// P15.2: names of all lengths go out as they are.
func TestNameOfAServer(t *testing.T) {
	for _, name := range []string{"", "n", "BIGCO\\server", "\x00\xff", text("n", 63), text("\xff", 64)} {
		s := newServer(t, name, "secret", 1, 1)
		wantOut(t, "P15.2", s.Begin(drawn(3)), sends(challenge(1, drawn(3), name)))
	}
}

// otherSizes is challenges of other lengths than 16 bytes.
func otherSizes() [][]byte {
	l := [][]byte{nil, make([]byte, 272), make([]byte, 1<<16+16)}
	for size := range 40 {
		if size != 16 {
			l = append(l, make([]byte, size))
		}
	}
	return l
}

// P15.2: Begin in each state; a challenge of another length changes nothing.
func TestBegin(t *testing.T) {
	s := newServer(t, "server", "secret", 1, 1)
	for _, b := range otherSizes() {
		wantEmpty(t, "P15.2: Begin with another length", s.Begin(b))
	}
	wantEmpty(t, "P15.2: no timer runs", s.Tick())
	wantIgnored(t, "P15.2: no Challenge", s, usual().response(0))
	wantOut(t, "P15.2: the first Begin", s.Begin(drawn(1)), sends(challenge(1, drawn(1), "server")))
	wantEnd(t, "P15.2: the first Begin", s, auth.Waiting, nil)

	for state := range states {
		what := fmt.Sprintf("P15.2: in state %d", state)
		s, p := judged(t, state)
		for _, b := range otherSizes() {
			wantEmpty(t, what+": Begin with another length", s.Begin(b))
			wantEnd(t, what, s, state, usual().answer())
		}
		if state == auth.Waiting {
			wantEmpty(t, what+": the timer goes on", s.Tick())
			wantOut(t, what+": the challenge stays", s.Tick(), sends(challenge(2, drawn(1), "server")))
			wantOut(t, what, s.Begin(drawn(7)), sends(challenge(3, drawn(7), "server")))
		} else {
			wantEmpty(t, what+": no timer runs", s.Tick())
			wantEmpty(t, what+": no timer runs", s.Tick())
			wantOut(t, what+": the Response again", s.Input(p), sends(verdict(state, 1)))
			wantOut(t, what, s.Begin(drawn(7)), sends(challenge(2, drawn(7), "server")))
		}
		wantEnd(t, what+": behind Begin", s, auth.Waiting, nil)
		wantIgnored(t, what+": the last Response of another Begin", s, p)
	}
}

// verdict is what a usual server sends in state Good or Bad.
func verdict(state, id int) api.Packet {
	if state == auth.Good {
		return success(id, usual().proof()+okText)
	}
	return failure(id, badText)
}

// P15.2: Begin starts the timer and the attempts anew, whatever was left of them.
func TestBeginStartsAnew(t *testing.T) {
	for ticks := range 12 {
		s := begun(t, 3, 4)
		for range ticks {
			s.Tick()
		}
		s.Begin(drawn(2))
		id := 2 + ticks/4
		for range 2 {
			for range 3 {
				wantEmpty(t, "P15.2: ahead of the timer's end", s.Tick())
			}
			id++
			wantOut(t, "P15.2: at the timer's end", s.Tick(), sends(challenge(id, drawn(2), "server")))
		}
		for range 3 {
			wantEmpty(t, "P15.2: ahead of the last end", s.Tick())
		}
		wantOut(t, "P15.2: at the last end", s.Tick(), done(auth.Out{}))
		wantEnd(t, "P15.2: behind the last end", s, auth.Bad, nil)
	}
}

// P15.2: identifiers beyond 256 of them, by Begin and by Tick.
func TestIdentifiersOfAServer(t *testing.T) {
	s := newServer(t, "server", "secret", 2, 1)
	for k := 1; k < 1000; {
		wantOut(t, "P15.2: Begin", s.Begin(drawn(k)), sends(challenge(k%256, drawn(k), "server")))
		asked := drawn(k)
		if k++; k%3 == 0 {
			wantOut(t, "P15.2: Tick", s.Tick(), sends(challenge(k%256, asked, "server")))
			k++
		}
		x := exchange{asked, drawn(k), "client", "secret"}
		id := (k - 1) % 256
		wantIgnored(t, "P15.2: the identifier ahead", s, x.response((id+255)%256))
		wantIgnored(t, "P15.2: the next identifier", s, x.response((id+1)%256))
		wantIgnored(t, "P15.2: the same byte", s, x.response(id+256))
		wantIgnored(t, "P15.2: the same byte", s, x.response(id-256))
		if k%2 == 0 {
			wantOut(t, "P15.2: a Response", s.Input(x.response(id)), done(sends(success(id, x.proof()+okText))))
			wantEnd(t, "P15.2: a Response", s, auth.Good, x.answer())
		}
	}
}

// P15.2: how many Challenges are sent, and when: tries of 1 and more, and ticks of
// 1 and more.
func TestTicks(t *testing.T) {
	for _, tries := range []int{1, 2, 3, 10, 300, 1000} {
		for _, timeout := range []int{1, 2, 3, 10, 1000} {
			if tries*timeout > 20000 && timeout > 10 {
				continue
			}
			s := newServer(t, "server", "secret", tries, timeout)
			what := fmt.Sprintf("P15.2: %d tries, %d ticks", tries, timeout)
			for range 3 {
				wantEmpty(t, what+": no timer runs", s.Tick())
			}
			wantOut(t, what, s.Begin(drawn(1)), sends(challenge(1, drawn(1), "server")))
			for tick := 1; tick < tries*timeout; tick++ {
				out := s.Tick()
				if tick%timeout == 0 {
					wantOut(t, what, out, sends(challenge((1+tick/timeout)%256, drawn(1), "server")))
				} else {
					wantEmpty(t, what, out)
				}
				wantEnd(t, what, s, auth.Waiting, nil)
			}
			wantOut(t, what+": the last tick", s.Tick(), done(auth.Out{}))
			for range 2*timeout + 2 {
				wantEnd(t, what+": behind the last tick", s, auth.Bad, nil)
				wantEmpty(t, what+": no timer runs any more", s.Tick())
			}
			id := tries % 256
			wantIgnored(t, what+": too late", s, usual().response(id))
			wantIgnored(t, what+": too late", s, wrong(id))
			wantIgnored(t, what+": too late", s, api.Packet{Code: auth.Response, Id: id})
			wantOut(t, what+": Begin again", s.Begin(drawn(2)), sends(challenge((tries+1)%256, drawn(2), "server")))
			wantEnd(t, what+": Begin again", s, auth.Waiting, nil)
		}
	}
}

// P15.2: the least and the greatest number of ticks, with the greatest number of
// tries.
func TestLongTimeout(t *testing.T) {
	s := begun(t, 2, 1000)
	for range 999 {
		wantEmpty(t, "P15.2: 1000 ticks", s.Tick())
	}
	wantOut(t, "P15.2: 1000 ticks", s.Tick(), sends(challenge(2, drawn(1), "server")))
	for range 999 {
		wantEmpty(t, "P15.2: 2000 ticks", s.Tick())
	}
	wantOut(t, "P15.2: 2000 ticks", s.Tick(), done(auth.Out{}))
}

// P15.2: a Response counts at every tick until the last one.
func TestResponseAtEachTick(t *testing.T) {
	for ticks := range 3 * 4 {
		for _, good := range []bool{true, false} {
			s := begun(t, 3, 4)
			for range ticks {
				s.Tick()
			}
			id := 1 + ticks/4
			p, state := usual().response(id), auth.Good
			if !good {
				p, state = wrong(id), auth.Bad
			}
			what := fmt.Sprintf("P15.2: behind %d ticks", ticks)
			for old := range id {
				wantIgnored(t, what+": an older one", s, usual().response(old))
			}
			wantOut(t, what, s.Input(p), done(sends(verdict(state, id))))
			for range 20 {
				wantEnd(t, what, s, state, usual().answer())
				wantEmpty(t, what+": the timer stops", s.Tick())
			}
		}
	}
}
