package auth

import (
	"bytes"
	"errors"

	"fairlead/api"
	"fairlead/chap"
	"fairlead/fault"
)

const (
	most = 1000 // tries, and ticks of a timer
	ids  = 256
)

// The texts that the server tells the client with a verdict.
const (
	welcome = " M=ok" // behind the proof
	refusal = "E=691 R=0 V=3 M=no"
)

func isSetting(n int) bool { return n >= 1 && n <= most }

// Server is the end that demands the proof.
type Server struct {
	name, secret   string
	tries, timeout int // both 0 if NewServer did not make the server
	state          int
	challenge      []byte // nil ahead of the first Begin
	id             int    // of the last Challenge
	attempts       int    // Challenges that may still be sent
	left           int    // ticks until the timer expires, or 0 if it does not run
	judged         judgement
}

// judgement is what became of the Response to the last challenge, if one was
// judged.
type judgement struct {
	data    []byte // of the Response; nil if none was judged
	verdict api.Packet
	answer  []byte // if it was right
}

// NewServer makes a server in state Waiting, which sends each challenge up to
// tries times, and waits timeout ticks behind each.
func NewServer(name, secret string, tries, timeout int) (*Server, api.Errno) {
	if err := check(name, secret); err != api.OK {
		return nil, err
	}
	if !isSetting(tries) || !isSetting(timeout) {
		return nil, api.ErrArg
	}
	return &Server{name: name, secret: secret, tries: tries, timeout: timeout}, api.OK
}

func (s *Server) made() bool { return s != nil && s.tries > 0 }

// Begin demands a proof, with a challenge of 16 bytes that the caller has drawn.
func (s *Server) Begin(challenge []byte) Out {
	if !s.made() || len(challenge) != drawnSize {
		return Out{}
	}
	s.challenge = bytes.Clone(challenge)
	s.state, s.judged = Waiting, judgement{}
	s.attempts = s.tries
	return s.ask()
}

// ask sends the challenge, and starts the timer.
func (s *Server) ask() Out {
	s.id = (s.id + 1) % ids
	s.attempts--
	s.left = s.timeout
	return sends(Challenge, s.id, challengeData(s.challenge, s.name))
}

// Tick lets one tick of the timer pass.
func (s *Server) Tick() Out {
	if !s.made() || s.left == 0 {
		return Out{}
	}
	s.left--
	switch {
	case s.left > 0:
		return Out{}
	case s.attempts > 0:
		return s.ask()
	}
	s.state = Bad
	return Out{Done: true}
}

// Input processes a packet that came in.
func (s *Server) Input(p api.Packet) Out {
	r, err := s.accept(p)
	switch {
	case errors.Is(err, fault.Dropped):
		return Out{}
	case s.state == Waiting:
		return s.judge(p, r)
	}
	return s.told()
}

// accept is what a Response tells, or why the packet is ignored. It changes
// nothing.
func (s *Server) accept(p api.Packet) (response, error) {
	switch {
	case !s.made() || s.challenge == nil:
		return response{}, fault.Drop(layer, api.ErrState)
	case p.Code != Response:
		return response{}, fault.Drop(layer, api.ErrArg)
	case p.Id != s.id:
		return response{}, fault.Drop(layer, api.ErrOld)
	case s.state != Waiting && !bytes.Equal(p.Data, s.judged.data):
		return response{}, fault.Drop(layer, api.ErrState)
	}
	return readResponse(p.Data)
}

// judge ends the proof, by a Response to the last challenge.
func (s *Server) judge(p api.Packet, r response) Out {
	s.left = 0
	s.judged.data = bytes.Clone(p.Data)
	if text, ok := s.proof(r); ok {
		s.state, s.judged.answer = Good, r.answer
		s.judged.verdict = api.Packet{Code: Success, Id: p.Id, Data: []byte(text + welcome)}
	} else {
		s.state = Bad
		s.judged.verdict = api.Packet{Code: Failure, Id: p.Id, Data: []byte(refusal)}
	}
	out := s.told()
	out.Done = true
	return out
}

// proof is the text that proves the secret to the client, if the client's answer
// is right.
func (s *Server) proof(r response) (string, bool) {
	right, err := chap.Respond(s.challenge, r.peer, r.name, s.secret)
	if err != api.OK || !bytes.Equal(r.answer, right) {
		return "", false
	}
	text, err := chap.Proof(s.secret, r.answer, r.peer, s.challenge, r.name)
	return text, err == api.OK
}

// told sends the verdict on the Response that was judged.
func (s *Server) told() Out {
	v := s.judged.verdict
	return sends(v.Code, v.Id, bytes.Clone(v.Data))
}

// State is the state that the server is in.
func (s *Server) State() int {
	if !s.made() {
		return 0
	}
	return s.state
}

// Answer is the client's answer that was right, in state Good.
func (s *Server) Answer() []byte {
	if !s.made() {
		return nil
	}
	return bytes.Clone(s.judged.answer)
}
