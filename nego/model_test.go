package nego_test

import (
	"bytes"
	"encoding/binary"
	"slices"

	"fairlead/api"
	"fairlead/fsm"
	"fairlead/nego"
	"fairlead/packet"
)

// The chapter's words about rules, one by one.

func modelRule(rules []nego.Rule, kind int) (nego.Rule, bool) {
	for _, r := range rules {
		if r.Type == kind {
			return r, true
		}
	}
	return nego.Rule{}, false
}

func modelNumber(data []byte) uint64 {
	return binary.BigEndian.Uint64(append(make([]byte, 8-len(data)), data...))
}

func modelBytes(n uint64, size int) []byte {
	return binary.BigEndian.AppendUint64(nil, n)[8-size:]
}

// modelLength tells whether data has the length that a rule of numbers asks for.
func modelLength(r nego.Rule, data []byte) bool {
	return slices.Contains([]int{1, 2, 3, 4}, r.Len) && len(data) == r.Len
}

func modelFits(r nego.Rule, data []byte) bool {
	switch r.How {
	case nego.Any:
		return len(data) == r.Len || r.Len < 0
	case nego.Range:
		return modelLength(r, data) && modelNumber(data) >= uint64(r.Lo) && modelNumber(data) <= uint64(r.Hi)
	case nego.Exact:
		return string(data) == string(r.Want)
	case nego.Bits:
		return modelLength(r, data) && modelNumber(data)|uint64(r.Hi) == uint64(r.Hi)
	}
	return false
}

func modelOffer(r nego.Rule, data []byte) ([]byte, bool) {
	if r.How == nego.Exact {
		return r.Want, true
	}
	if r.How != nego.Range && r.How != nego.Bits || r.Len < 1 || r.Len > 4 {
		return nil, false
	}
	n := uint64(r.Hi)
	if modelLength(r, data) {
		switch x := modelNumber(data); {
		case r.How == nego.Bits:
			n = x & uint64(r.Hi)
		case x < uint64(r.Lo):
			n = uint64(r.Lo)
		}
	}
	return modelBytes(n, r.Len), true
}

func modelJudge(rules []nego.Rule, l []api.Option, rejects bool) (int, []api.Option) {
	var rejected, offers []api.Option
	for i, o := range l {
		r, ok := modelRule(rules, o.Type)
		_, again := modelType(l[:i], o.Type)
		_, offered := modelOffer(r, o.Data)
		if !ok || again || !modelFits(r, o.Data) && (!offered || rejects) {
			rejected = append(rejected, o)
		}
	}
	if len(rejected) > 0 {
		return api.ConfRej, rejected
	}
	for _, o := range l {
		r, _ := modelRule(rules, o.Type)
		if !modelFits(r, o.Data) {
			data, _ := modelOffer(r, o.Data)
			offers = append(offers, api.Option{Type: o.Type, Data: data})
		}
	}
	if !rejects {
		for i, r := range rules {
			_, occurs := modelType(l, r.Type)
			_, earlier := modelRule(rules[:i], r.Type)
			if data, ok := modelOffer(r, nil); ok && r.Need && !occurs && !earlier {
				offers = append(offers, api.Option{Type: r.Type, Data: data})
			}
		}
	}
	if len(offers) > 0 {
		return api.ConfNak, offers
	}
	return api.ConfAck, l
}

func modelType(l []api.Option, kind int) (api.Option, bool) {
	for _, o := range l {
		if o.Type == kind {
			return o, true
		}
	}
	return api.Option{}, false
}

func modelNaked(rules []nego.Rule, ask, nak []api.Option) []api.Option {
	var l []api.Option
	for _, o := range ask {
		r, ok := modelRule(rules, o.Type)
		if by, named := modelType(nak, o.Type); ok && named {
			switch {
			case r.How == nego.Any:
				o.Data = by.Data
			case r.How == nego.Range && modelLength(r, by.Data):
				n := modelNumber(by.Data)
				if n < uint64(r.Lo) {
					n = uint64(r.Lo)
				} else if n > uint64(r.Hi) {
					n = uint64(r.Hi)
				}
				o.Data = modelBytes(n, r.Len)
			case r.How == nego.Bits && modelLength(r, by.Data):
				o.Data = modelBytes(modelNumber(by.Data)&uint64(r.Hi), r.Len)
			}
		}
		l = append(l, o)
	}
	return l
}

func modelOccurs(l []api.Option, o api.Option) bool {
	for _, x := range l {
		if x.Type == o.Type && string(x.Data) == string(o.Data) {
			return true
		}
	}
	return false
}

func modelLeft(rules []nego.Rule, ask, rej []api.Option) []api.Option {
	var l []api.Option
	for _, o := range ask {
		if r, _ := modelRule(rules, o.Type); r.Need || !modelOccurs(rej, o) {
			l = append(l, o)
		}
	}
	return l
}

// model is a negotiator as P13.3 and P13.4 tell of it. It answers what its
// machine asks for action by action.
type model struct {
	*fsm.Machine
	rules          []nego.Rule
	tries          int
	first, request []api.Option
	id, naks       int
	last           []api.Packet // Configure-Requests that were sent
	answered       bool
	mine, given    []api.Option
	dropped        int
}

func newModel(rules []nego.Rule, ask []api.Option, tries, timeout int) *model {
	m, err := fsm.New(tries, timeout)
	if err != api.OK {
		panic(err)
	}
	return &model{Machine: m, rules: rules, tries: tries, first: ask, request: ask}
}

func (m *model) next() int {
	m.id++
	return m.id % 256
}

func (m *model) do(event int) nego.Out {
	if event == api.Up {
		m.request, m.naks = m.first, 0
	}
	if event == api.Up || event == api.Down || event == api.Open || event == api.Close {
		return m.act(m.Do(event), api.Packet{})
	}
	return nego.Out{}
}

func (m *model) act(actions []int, p api.Packet) nego.Out {
	var out nego.Out
	for _, action := range actions {
		switch action {
		case api.LayerUp:
			out.Up = true
		case api.LayerDown:
			out.Down = true
		case api.LayerStart:
			out.Start = true
			m.request, m.naks = m.first, 0
		case api.LayerDone:
			out.Done = true
		case api.SendReq:
			x := request(m.next(), m.request...)
			m.last, m.answered = append(m.last, x), false
			out.Send = append(out.Send, x)
		case api.SendAck, api.SendNak:
			l, _ := packet.Split(p.Data)
			code, answer := modelJudge(m.rules, l, m.naks >= m.tries)
			if code == api.ConfAck {
				m.given = l
			}
			if code == api.ConfNak {
				m.naks++
			}
			out.Send = append(out.Send, api.Packet{Code: code, Id: p.Id, Data: bytesOf(answer...)})
		case api.SendTermReq:
			out.Send = append(out.Send, plain(api.TermReq, m.next()))
		case api.SendTermAck:
			id := p.Id
			if p.Code != api.TermReq {
				id = m.next()
			}
			out.Send = append(out.Send, plain(api.TermAck, id))
		case api.SendCodeRej:
			b, _ := packet.Encode(p)
			if len(b) > 1496 {
				b = b[:1496]
			}
			out.Send = append(out.Send, plain(api.CodeRej, m.next(), b...))
		}
	}
	return out
}

// drops tells whether a packet is dropped.
func (m *model) drops(p api.Packet) bool {
	if m.State() == api.Initial || m.State() == api.Starting {
		return true
	}
	l, err := packet.Split(p.Data)
	switch p.Code {
	case api.ConfReq:
		return err != api.OK
	case api.ConfAck, api.ConfNak, api.ConfRej:
		if len(m.last) == 0 || m.answered {
			return true
		}
		last := m.last[len(m.last)-1]
		if p.Id != last.Id {
			return true
		}
		if p.Code == api.ConfAck {
			return !bytes.Equal(p.Data, last.Data)
		}
		if err != api.OK {
			return true
		}
		asked, _ := packet.Split(last.Data)
		for _, o := range l {
			if p.Code == api.ConfRej && !modelOccurs(asked, o) {
				return true
			}
		}
	case api.CodeRej:
		return len(p.Data) < 1
	}
	return false
}

func (m *model) input(p api.Packet) nego.Out {
	if m.drops(p) {
		m.dropped++
		return nego.Out{}
	}
	l, _ := packet.Split(p.Data)
	event := api.Unknown
	switch p.Code {
	case api.ConfReq:
		event = api.ReqBad
		if code, _ := modelJudge(m.rules, l, m.naks >= m.tries); code == api.ConfAck {
			event = api.ReqGood
		}
	case api.ConfAck:
		m.answered = true
		m.mine = l
		event = api.AckIn
	case api.ConfNak:
		m.answered = true
		m.request = modelNaked(m.rules, m.request, l)
		event = api.NakIn
	case api.ConfRej:
		m.answered = true
		m.request = modelLeft(m.rules, m.request, l)
		event = api.NakIn
	case api.TermReq:
		event = api.TermReqIn
	case api.TermAck:
		event = api.TermAckIn
	case api.CodeRej:
		event = api.RejGood
		if p.Data[0] >= 1 && p.Data[0] <= 7 {
			event = api.RejBad
		}
	}
	return m.act(m.Do(event), p)
}

func (m *model) tick() nego.Out { return m.act(m.Tick(), api.Packet{}) }

func (m *model) ask(l []api.Option) {
	if _, err := packet.Options(l); err == api.OK {
		m.first = l
	}
}

func (m *model) agreed() (mine, given []api.Option) {
	if m.State() != api.Opened {
		return nil, nil
	}
	return m.mine, m.given
}
