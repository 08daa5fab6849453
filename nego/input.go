package nego

import (
	"errors"

	"fairlead/api"
	"fairlead/fault"
	"fairlead/packet"
)

// cause is the packet that leads to actions, if one does, and the answer to it
// where it is a Configure-Request.
type cause struct {
	packet  api.Packet
	code    int
	options []api.Option
}

// Input processes a packet that came in.
func (n *Nego) Input(p api.Packet) Out {
	if !n.made() {
		return Out{}
	}
	l, err := n.accept(p)
	if errors.Is(err, fault.Dropped) {
		n.dropped++
		return Out{}
	}
	event, c := n.heed(p, l)
	return n.perform(n.machine.Do(event), c)
}

// accept is the options of a packet, if it has any, or why it is dropped. It
// changes nothing.
func (n *Nego) accept(p api.Packet) ([]api.Option, error) {
	switch n.State() {
	case api.Initial, api.Starting:
		return nil, fault.Drop(layer, api.ErrState)
	}
	switch p.Code {
	case api.ConfReq:
		return split(p.Data)
	case api.ConfAck, api.ConfNak, api.ConfRej:
		return n.asked.answered(p)
	case api.CodeRej:
		if len(p.Data) == 0 {
			return nil, fault.Drop(layer, api.ErrShort)
		}
	}
	return nil, nil
}

func split(data []byte) ([]api.Option, error) {
	l, err := packet.Split(data)
	if err != api.OK {
		return nil, fault.Drop(layer, err)
	}
	return l, nil
}

// answered is the options of an answer, or why it is none to what was asked.
func (a asked) answered(p api.Packet) ([]api.Option, error) {
	if !a.open || p.Id != a.id {
		return nil, fault.Drop(layer, api.ErrOld)
	}
	l, err := split(p.Data)
	if err != nil {
		return nil, err
	}
	switch {
	case p.Code == api.ConfAck && !packet.Same(l, a.options):
		return nil, fault.Drop(layer, api.ErrData)
	case p.Code == api.ConfRej && !within(l, a.options):
		return nil, fault.Drop(layer, api.ErrData)
	}
	return l, nil
}

// within tells whether all options of l are among others.
func within(l, others []api.Option) bool {
	for _, o := range l {
		if !has(others, o) {
			return false
		}
	}
	return true
}

// heed is the event that a packet with these options leads to, and the cause of
// the actions that come of it.
func (n *Nego) heed(p api.Packet, l []api.Option) (int, cause) {
	c := cause{packet: p}
	switch p.Code {
	case api.ConfReq:
		c.code, c.options = n.judge(l, n.naks >= n.tries)
		if c.code == api.ConfAck {
			return api.ReqGood, c
		}
		return api.ReqBad, c
	case api.ConfAck, api.ConfNak, api.ConfRej:
		return n.settle(p.Code, l), c
	case api.TermReq:
		return api.TermReqIn, c
	case api.TermAck:
		return api.TermAckIn, c
	case api.CodeRej:
		return rejection(p.Data[0]), c
	}
	return api.Unknown, c
}

// settle takes the answer to what was asked, ahead of the next request. It is the
// answer's event.
func (n *Nego) settle(code int, l []api.Option) int {
	n.asked.open = false
	switch code {
	case api.ConfNak:
		n.request = Naked(n.rules, n.request, l)
		return api.NakIn
	case api.ConfRej:
		n.request = Left(n.rules, n.request, l)
		return api.NakIn
	}
	n.mine = n.asked.options
	return api.AckIn
}

// rejection is the event of a Code-Reject: an end that doesn't know the codes of
// the negotiation itself can't go on with it.
func rejection(code byte) int {
	if code >= api.ConfReq && code <= api.CodeRej {
		return api.RejBad
	}
	return api.RejGood
}
