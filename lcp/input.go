package lcp

import (
	"slices"

	"fairlead/api"
	"fairlead/nego"
	"fairlead/number"
)

const (
	protoSize = 2                 // bytes of a protocol ahead of what is rejected
	maxData   = api.MaxPacket - 4 // bytes of a packet behind its code, its identifier and its length
)

// Input processes a packet that came in.
func (l *Lcp) Input(p api.Packet) Out {
	if l.drops(p) {
		l.negotiator().Drop()
		return Out{}
	}
	switch p.Code {
	case api.EchoReq:
		return l.echo(p)
	case api.EchoRep, api.Discard:
		return Out{}
	case api.ProtRej:
		return l.rejected(number.Of(p.Data[:protoSize]))
	}
	return Out{Out: l.negotiator().Input(p)}
}

// drops tells whether a packet is dropped ahead of nego, which knows only those
// of the negotiation.
func (l *Lcp) drops(p api.Packet) bool {
	switch p.Code {
	case api.EchoReq:
		return l.down() || len(p.Data) < size(kindMagic)
	case api.ProtRej:
		if len(p.Data) < protoSize {
			return true
		}
		fallthrough
	case api.EchoRep, api.Discard:
		return !l.opened()
	}
	return false
}

// down tells whether nothing can come in, as there is no line.
func (l *Lcp) down() bool {
	switch l.State() {
	case api.Initial, api.Starting:
		return true
	}
	return false
}

// judge is nego.Judge, but for a request with the magic number of this end's own
// last one: the line may have turned that back, so that it is never acknowledged.
func (l *Lcp) judge(asked []api.Option, rejects bool) (int, []api.Option) {
	code, answer := nego.Judge(l.rules, asked, rejects)
	magic := Read(asked).Magic
	if code == api.ConfRej || magic == 0 || magic != Read(l.nego.Asked()).Magic {
		return code, answer
	}
	if rejects {
		return api.ConfRej, []api.Option{option(kindMagic, int(magic))}
	}
	return api.ConfNak, []api.Option{option(kindMagic, int(next(magic)))}
}

// next is the magic number behind another one. There is no magic number 0.
func next(magic uint32) uint32 { return max(magic+1, 1) }

// echo answers an Echo-Request. In other states than Opened it has no action.
func (l *Lcp) echo(p api.Packet) Out {
	if !l.opened() {
		return Out{}
	}
	magic := number.Bytes(int(l.Mine().Magic), size(kindMagic))
	data := slices.Concat(magic, p.Data[size(kindMagic):])
	return sends(api.Packet{Code: api.EchoRep, Id: p.Id, Data: data})
}

func sends(p api.Packet) Out { return Out{Out: nego.Out{Send: []api.Packet{p}}} }

// rejected is what comes of a protocol's rejection in Opened. Without LCP itself
// the end can't go on, just as without one of nego's codes; without another
// protocol LCP goes on as it was.
func (l *Lcp) rejected(proto int) Out {
	if proto == api.ProtoLCP {
		return Out{Out: l.nego.Input(api.Packet{Code: api.CodeRej, Data: []byte{api.ConfReq}})}
	}
	return Out{Reject: proto}
}

// Refuse rejects a protocol that the other end sent info of.
func (l *Lcp) Refuse(proto int, info []byte) Out {
	if !l.opened() {
		return Out{}
	}
	data := slices.Concat(number.Bytes(proto, protoSize), info)
	return sends(l.nego.Own(api.ProtRej, data[:min(len(data), maxData)]))
}
