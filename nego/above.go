package nego

import (
	"bytes"

	"fairlead/api"
)

// The functions below are for a layer that has packets of its own among those of
// the negotiation.

// JudgeBy lets judge answer the requests that come in, in place of Judge with
// this end's rules. It is used as Judge is, and may call Judge itself.
func (n *Nego) JudgeBy(judge func(l []api.Option, rejects bool) (int, []api.Option)) {
	if n.made() && judge != nil {
		n.judge = judge
	}
}

// Asked is the options of the last Configure-Request that was sent.
func (n *Nego) Asked() []api.Option {
	if !n.made() {
		return nil
	}
	return copies(n.asked.options)
}

// Own is a packet with the next own identifier, which is used up by it.
func (n *Nego) Own(code int, data []byte) api.Packet {
	if !n.made() {
		return api.Packet{}
	}
	return n.own(code, bytes.Clone(data))
}

// Drop counts a packet that the layer dropped itself.
func (n *Nego) Drop() {
	if n.made() {
		n.dropped++
	}
}
