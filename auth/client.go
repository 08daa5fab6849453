package auth

import (
	"bytes"
	"errors"

	"fairlead/api"
	"fairlead/chap"
	"fairlead/fault"
)

// Client is the end that has to prove its secret.
type Client struct {
	name, secret string
	drawn        []byte // nil if NewClient did not make the client
	state        int
	id           int    // of the last Response
	answer       []byte // in the last Response; nil ahead of the first one
	proof        string // by which the server shows that it knows the secret, too
}

// NewClient makes a client in state Waiting.
func NewClient(name, secret string) (*Client, api.Errno) {
	if err := check(name, secret); err != api.OK {
		return nil, err
	}
	return &Client{name: name, secret: secret, drawn: make([]byte, drawnSize)}, api.OK
}

func (c *Client) made() bool { return c != nil && c.drawn != nil }

// Draw sets the client's own challenge, 16 bytes that the caller has drawn.
func (c *Client) Draw(challenge []byte) {
	if c.made() && len(challenge) == drawnSize {
		c.drawn = bytes.Clone(challenge)
	}
}

// Input processes a packet that came in.
func (c *Client) Input(p api.Packet) Out {
	challenge, err := c.accept(p)
	switch {
	case errors.Is(err, fault.Dropped):
		return Out{}
	case p.Code == Challenge:
		return c.respond(p.Id, challenge)
	}
	return c.settle(p)
}

// accept is the challenge in a packet, if it is a Challenge, or why the packet is
// ignored. It changes nothing.
func (c *Client) accept(p api.Packet) ([]byte, error) {
	if !c.made() {
		return nil, fault.Drop(layer, api.ErrState)
	}
	switch p.Code {
	case Challenge:
		return readChallenge(p.Data)
	case Success, Failure:
		return nil, c.awaits(p.Id)
	}
	return nil, fault.Drop(layer, api.ErrArg)
}

// awaits is why a verdict with this identifier is ignored, if it is.
func (c *Client) awaits(id int) error {
	switch {
	case c.state != Waiting || c.answer == nil:
		return fault.Drop(layer, api.ErrState)
	case id != c.id:
		return fault.Drop(layer, api.ErrOld)
	}
	return nil
}

// respond answers a challenge. That neither function of chap refuses its
// arguments is seen to by NewClient, Draw and accept.
func (c *Client) respond(id int, challenge []byte) Out {
	c.state, c.id = Waiting, id
	c.answer, _ = chap.Respond(challenge, c.drawn, c.name, c.secret)
	c.proof, _ = chap.Proof(c.secret, c.answer, c.drawn, challenge, c.name)
	return sends(Response, id, response{peer: c.drawn, answer: c.answer, name: c.name}.data())
}

// settle takes the server's verdict on the last Response. A Success that does
// not prove the secret is none.
func (c *Client) settle(p api.Packet) Out {
	c.state = Bad
	if p.Code == Success && c.isProof(p.Data) {
		c.state = Good
	}
	return Out{Done: true}
}

// isProof tells whether text is the proof, or begins with it and a blank.
func (c *Client) isProof(text []byte) bool {
	rest, ok := bytes.CutPrefix(text, []byte(c.proof))
	return ok && (len(rest) == 0 || rest[0] == ' ')
}

// State is the state that the client is in.
func (c *Client) State() int {
	if !c.made() {
		return 0
	}
	return c.state
}

// Answer is the client's answer that the server acknowledged, in state Good.
func (c *Client) Answer() []byte {
	if c.State() != Good {
		return nil
	}
	return bytes.Clone(c.answer)
}
