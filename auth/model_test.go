package auth_test

import (
	"bytes"

	"fairlead/api"
	"fairlead/auth"
	"fairlead/chap"
)

// serverModel is a server as the chapter tells of it. It keeps all that it has
// sent and heard.
type serverModel struct {
	name, secret   string
	tries, timeout int
	state          int
	asked          []api.Packet // Challenges that were sent
	challenge      []byte
	further, ticks int // ticks: since the timer was started, or -1
	judged         []api.Packet
	answer         []byte
	verdict        api.Packet
}

func newServerModel(name, secret string, tries, timeout int) *serverModel {
	return &serverModel{name: name, secret: secret, tries: tries, timeout: timeout, ticks: -1}
}

func (m *serverModel) ask() auth.Out {
	p := challenge((len(m.asked)+1)%256, m.challenge, m.name)
	m.asked = append(m.asked, p)
	m.ticks = 0
	return sends(p)
}

func (m *serverModel) begin(b []byte) auth.Out {
	if len(b) != 16 {
		return auth.Out{}
	}
	m.state, m.challenge, m.further, m.judged = auth.Waiting, bytes.Clone(b), m.tries-1, nil
	return m.ask()
}

func (m *serverModel) tick() auth.Out {
	if m.ticks < 0 {
		return auth.Out{}
	}
	m.ticks++
	if m.ticks < m.timeout {
		return auth.Out{}
	}
	if m.further > 0 {
		m.further--
		return m.ask()
	}
	m.state, m.ticks = auth.Bad, -1
	return done(auth.Out{})
}

// isResponse tells whether a packet is a Response that is well-formed.
func isResponse(p api.Packet) bool {
	if p.Code != 2 || len(p.Data) < 50 || len(p.Data) > 114 || p.Data[0] != 49 || p.Data[49] != 0 {
		return false
	}
	for i := 17; i <= 24; i++ {
		if p.Data[i] != 0 {
			return false
		}
	}
	return true
}

func (m *serverModel) input(p api.Packet) auth.Out {
	if !isResponse(p) || len(m.asked) == 0 || p.Id != m.asked[len(m.asked)-1].Id {
		return auth.Out{}
	}
	if m.state != auth.Waiting {
		if len(m.judged) == 1 && same(m.judged[0], p) {
			return sends(m.verdict)
		}
		return auth.Out{}
	}
	peer, answer, name := p.Data[1:17], p.Data[25:49], string(p.Data[50:])
	m.judged = []api.Packet{{Code: 2, Id: p.Id, Data: bytes.Clone(p.Data)}}
	m.ticks = -1
	if bytes.Equal(answer, right(m.challenge, peer, name, m.secret)) {
		m.state, m.answer = auth.Good, bytes.Clone(answer)
		m.verdict = success(p.Id, proof(m.secret, answer, peer, m.challenge, name)+okText)
	} else {
		m.state, m.verdict = auth.Bad, failure(p.Id, badText)
	}
	return done(sends(m.verdict))
}

// clientModel is a client as the chapter tells of it.
type clientModel struct {
	name, secret string
	own          []byte
	state        int
	sent         []api.Packet // Responses
	asked        []byte       // by the last Challenge
	answer       []byte
}

func newClientModel(name, secret string) *clientModel {
	return &clientModel{name: name, secret: secret, own: make([]byte, 16)}
}

func (m *clientModel) draw(b []byte) {
	if len(b) == 16 {
		m.own = bytes.Clone(b)
	}
}

func (m *clientModel) input(p api.Packet) auth.Out {
	switch {
	case p.Code == 1 && len(p.Data) >= 17 && p.Data[0] == 16:
		m.state, m.asked = auth.Waiting, bytes.Clone(p.Data[1:17])
		m.answer = right(m.asked, m.own, m.name, m.secret)
		m.sent = append(m.sent, response(p.Id, m.own, m.answer, m.name))
		return sends(m.sent[len(m.sent)-1])
	case p.Code != 3 && p.Code != 4 || m.state != auth.Waiting || len(m.sent) == 0:
		return auth.Out{}
	}
	last := m.sent[len(m.sent)-1]
	if p.Id != last.Id {
		return auth.Out{}
	}
	m.state = auth.Bad
	if p.Code == 3 && m.proves(string(p.Data), last.Data[1:17]) {
		m.state = auth.Good
	}
	return done(auth.Out{})
}

// proves tells whether a text proves the secret to a client that had drawn peer.
func (m *clientModel) proves(text string, peer []byte) bool {
	want, err := chap.Proof(m.secret, m.answer, peer, m.asked, m.name)
	if err != api.OK || len(text) < 42 || text[:42] != want {
		return false
	}
	return len(text) == 42 || text[42] == ' '
}
