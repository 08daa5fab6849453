package auth_test

import (
	"bytes"
	"testing"

	"fairlead/api"
	"fairlead/auth"
)

// P15.4: Answer in each state, and on the ways between them.
func TestAnswer(t *testing.T) {
	for state := range states {
		s, _ := judged(t, state)
		c := settled(t, state)
		for range 3 {
			wantEnd(t, "P15.4: a server", s, state, usual().answer())
			wantEnd(t, "P15.4: a client", c, state, usual().answer())
		}
		s.Begin(drawn(9))
		wantEnd(t, "P15.4: a server behind Begin", s, auth.Waiting, nil)
		c.Input(challenge(6, drawn(9), "server"))
		wantEnd(t, "P15.4: a client behind a Challenge", c, auth.Waiting, nil)
		x := exchange{drawn(9), drawn(2), "client", "secret"}
		s.Input(x.response(2))
		c.Input(success(6, x.proof()))
		wantEnd(t, "P15.4: a server", s, auth.Good, x.answer())
		wantEnd(t, "P15.4: a client", c, auth.Good, x.answer())
	}
}

// R4: what is handed out stays as it is, whatever is called later, and what is
// written into it changes nothing.
func TestWhatIsHandedOut(t *testing.T) {
	s, p := judged(t, auth.Good)
	c := settled(t, auth.Good)
	var outs []auth.Out
	var answers [][]byte
	for range 3 {
		outs = append(outs, s.Input(p))
		answers = append(answers, s.Answer(), c.Answer())
	}
	scribbleOut(outs[1])
	scribble(answers[2])
	scribble(answers[3])
	wantOut(t, "R4: a verdict beside one that was written into", s.Input(p), sends(verdict(auth.Good, 1)))
	wantEnd(t, "R4: a server", s, auth.Good, usual().answer())
	wantEnd(t, "R4: a client", c, auth.Good, usual().answer())

	asked := s.Begin(drawn(4))
	answered := c.Input(challenge(7, drawn(4), "server"))
	s.Tick()
	again := s.Tick()
	s.Begin(drawn(5))
	s.Input(usual().response(4))
	c.Input(failure(7, badText))
	c.Draw(drawn(6))
	c.Input(challenge(7, drawn(5), "server"))
	x := exchange{drawn(4), drawn(2), "client", "secret"}
	wantOut(t, "R4: a Challenge", asked, sends(challenge(2, drawn(4), "server")))
	wantOut(t, "R4: a Challenge again", again, sends(challenge(3, drawn(4), "server")))
	wantOut(t, "R4: a Response", answered, sends(x.response(7)))
	for _, i := range []int{0, 2} {
		wantOut(t, "R4: a verdict", outs[i], sends(verdict(auth.Good, 1)))
	}
	for _, i := range []int{0, 1, 4, 5} {
		if !bytes.Equal(answers[i], usual().answer()) {
			t.Errorf("R4: answer %d is %X now", i, answers[i])
		}
	}
}

// R4: what is handed in is neither changed nor kept: writing into it behind the
// call changes nothing.
func TestWhatIsHandedIn(t *testing.T) {
	s := newServer(t, "server", "secret", 2, 1)
	c := newClient(t, "client", "secret")
	handIn(t, drawn(1), func(b []byte) { s.Begin(b) })
	handIn(t, drawn(2), c.Draw)
	wantOut(t, "R4: the challenge again", s.Tick(), sends(challenge(2, drawn(1), "server")))
	handIn(t, challenge(5, drawn(1), "server").Data, func(b []byte) {
		wantOut(t, "R4: a Challenge", c.Input(api.Packet{Code: 1, Id: 5, Data: b}), sends(usual().response(5)))
	})
	handIn(t, usual().response(2).Data, func(b []byte) { s.Input(api.Packet{Code: 2, Id: 2, Data: b}) })
	handIn(t, []byte(usual().proof()+okText), func(b []byte) { c.Input(api.Packet{Code: 3, Id: 5, Data: b}) })
	wantEnd(t, "R4: a server", s, auth.Good, usual().answer())
	wantEnd(t, "R4: a client", c, auth.Good, usual().answer())
	wantOut(t, "R4: the Response again", s.Input(usual().response(2)), sends(verdict(auth.Good, 2)))
}
