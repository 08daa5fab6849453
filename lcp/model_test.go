package lcp_test

import (
	"slices"

	"fairlead/api"
	"fairlead/fsm"
	"fairlead/lcp"
	"fairlead/nego"
	"fairlead/packet"
)

// model is an Lcp as the chapter tells of it and of nego, on an automaton of its
// own. How it judges is nego's, but for its own Magic.
type model struct {
	*fsm.Machine
	config         api.Config
	first, request []api.Option
	id, naks       int
	last           []api.Packet // Configure-Requests that were sent
	answered       bool
	mine, given    []api.Option
	dropped        int
}

func newModel(c api.Config, drawn uint32) *model {
	m, err := fsm.New(c.Tries, c.Timeout)
	if err != api.OK {
		panic(err)
	}
	return &model{Machine: m, config: c, first: lcp.Ask(c, drawn), request: lcp.Ask(c, drawn)}
}

func (m *model) draw(drawn uint32) { m.first = lcp.Ask(m.config, drawn) }

func (m *model) next() int {
	m.id++
	return m.id % 256
}

func (m *model) do(event int) lcp.Out {
	switch event {
	case api.Up:
		m.request, m.naks = m.first, 0
	case api.Down, api.Open, api.Close:
	default:
		return lcp.Out{}
	}
	return m.act(m.Do(event), api.Packet{}, answer{})
}

func (m *model) tick() lcp.Out { return m.act(m.Tick(), api.Packet{}, answer{}) }

// answer is what a Configure-Request is answered with, if one is.
type answer struct {
	code    int
	options []api.Option
}

func (m *model) act(actions []int, p api.Packet, a answer) lcp.Out {
	var out lcp.Out
	send := func(p api.Packet) { out.Send = append(out.Send, p) }
	for _, action := range actions {
		switch action {
		case api.LayerUp:
			out.Up = true
		case api.LayerDown:
			out.Down = true
		case api.LayerStart:
			out.Start = true
			m.request, m.naks = m.first, 0
		case api.LayerDone:
			out.Done = true
		case api.SendReq:
			x := request(m.next(), m.request...)
			m.last, m.answered = append(m.last, x), false
			send(x)
		case api.SendAck:
			m.given = a.options
			send(with(a.code, p.Id, a.options...))
		case api.SendNak:
			if a.code == api.ConfNak {
				m.naks++
			}
			send(with(a.code, p.Id, a.options...))
		case api.SendTermReq:
			send(plain(api.TermReq, m.next()))
		case api.SendTermAck:
			id := p.Id
			if p.Code != api.TermReq {
				id = m.next()
			}
			send(plain(api.TermAck, id))
		case api.SendCodeRej:
			b, _ := packet.Encode(p)
			send(plain(api.CodeRej, m.next(), b[:min(len(b), 1496)]...))
		case api.SendEcho:
			x := modelRead(m.mine).Magic
			head := []byte{byte(x >> 24), byte(x >> 16), byte(x >> 8), byte(x)}
			send(plain(api.EchoRep, p.Id, slices.Concat(head, p.Data[4:])...))
		}
	}
	return out
}

// judge is what a request is answered with.
func (m *model) judge(l []api.Option) answer {
	rejects := m.naks >= m.config.Tries
	code, options := nego.Judge(lcp.Rules(m.config), l, rejects)
	theirs, own := modelRead(l).Magic, uint32(0)
	if len(m.last) > 0 {
		asked, _ := packet.Split(m.last[len(m.last)-1].Data)
		own = modelRead(asked).Magic
	}
	switch {
	case theirs == 0 || theirs != own || code == api.ConfRej:
		return answer{code, options}
	case rejects:
		return answer{api.ConfRej, list(magic(theirs))}
	case theirs == 0xffffffff:
		return answer{api.ConfNak, list(magic(1))}
	}
	return answer{api.ConfNak, list(magic(theirs + 1))}
}

// drops tells whether a packet is dropped.
func (m *model) drops(p api.Packet) bool {
	if m.State() == api.Initial || m.State() == api.Starting {
		return true
	}
	l, err := packet.Split(p.Data)
	switch p.Code {
	case api.ConfReq:
		return err != api.OK
	case api.ConfAck, api.ConfNak, api.ConfRej:
		if len(m.last) == 0 || m.answered || err != api.OK {
			return true
		}
		last := m.last[len(m.last)-1]
		asked, _ := packet.Split(last.Data)
		missing := slices.ContainsFunc(l, func(o api.Option) bool {
			return !slices.ContainsFunc(asked, func(x api.Option) bool { return packet.Same(list(o), list(x)) })
		})
		return p.Id != last.Id || p.Code == api.ConfAck && string(p.Data) != string(last.Data) || p.Code == api.ConfRej && missing
	case api.CodeRej:
		return len(p.Data) < 1
	case api.EchoReq:
		return len(p.Data) < 4
	case api.EchoRep, api.Discard:
		return m.State() != api.Opened
	case api.ProtRej:
		return m.State() != api.Opened || len(p.Data) < 2
	}
	return false
}

func (m *model) input(p api.Packet) lcp.Out {
	if m.drops(p) {
		m.dropped++
		return lcp.Out{}
	}
	l, _ := packet.Split(p.Data)
	rules := lcp.Rules(m.config)
	event, a, reject := api.Unknown, answer{}, 0
	switch p.Code {
	case api.ConfReq:
		a = m.judge(l)
		event = api.ReqBad
		if a.code == api.ConfAck {
			event = api.ReqGood
		}
	case api.ConfAck:
		m.answered, m.mine, event = true, l, api.AckIn
	case api.ConfNak:
		m.answered, m.request, event = true, nego.Naked(rules, m.request, l), api.NakIn
	case api.ConfRej:
		m.answered, m.request, event = true, nego.Left(rules, m.request, l), api.NakIn
	case api.TermReq:
		event = api.TermReqIn
	case api.TermAck:
		event = api.TermAckIn
	case api.CodeRej:
		event = api.RejGood
		if p.Data[0] >= 1 && p.Data[0] <= 7 {
			event = api.RejBad
		}
	case api.EchoReq:
		event = api.EchoIn
	case api.EchoRep, api.Discard:
		return lcp.Out{}
	case api.ProtRej:
		reject = int(p.Data[0])*256 + int(p.Data[1])
		event = api.RejGood
		if reject == 0xc021 {
			event, reject = api.RejBad, 0
		}
	}
	out := m.act(m.Do(event), p, a)
	out.Reject = reject
	return out
}

func (m *model) refuse(proto int, info []byte) lcp.Out {
	if m.State() != api.Opened {
		return lcp.Out{}
	}
	data := append([]byte{byte(proto >> 8), byte(proto)}, info...)
	return sends(plain(api.ProtRej, m.next(), data[:min(len(data), 1496)]...))
}

func (m *model) agreed() (mine, peer lcp.Values) {
	if m.State() != api.Opened {
		return usual(), usual()
	}
	return modelRead(m.mine), modelRead(m.given)
}
