package nego_test

import (
	"fmt"
	"math/rand/v2"
	"slices"
	"testing"

	"fairlead/api"
	"fairlead/nego"
	"fairlead/packet"
)

// twin is a negotiator and its model, on which the same calls are made.
type twin struct {
	n     *nego.Nego
	model *model
	done  []string
}

func newTwin(t *testing.T, rules []nego.Rule, ask []api.Option, tries, timeout int) *twin {
	t.Helper()
	in, inAsk := roomyRules(rules), roomyOptions(ask)
	x := &twin{n: newNego(t, in, inAsk, tries, timeout), model: newModel(rules, ask, tries, timeout)}
	x.done = append(x.done, fmt.Sprintf("New(%s, %s, %d, %d)", toldRules(rules), toldOptions(ask), tries, timeout))
	for i := range in {
		scribble(in[i].Want)
		in[i] = nego.Rule{Type: 1, How: nego.Any, Len: -1}
	}
	scribbleOptions(inAsk)
	return x
}

// same tells whether a call led to the same on both, and scribbles all over what
// the negotiator handed out.
func (x *twin) same(t *testing.T, call string, got, want nego.Out) bool {
	t.Helper()
	x.done = append(x.done, call)
	mine, given := x.model.agreed()
	gotMine, gotGiven := x.n.Mine(), x.n.Given()
	ok := toldOut(got) == toldOut(want) && x.n.State() == x.model.State() && x.n.Dropped() == x.model.dropped &&
		toldOptions(gotMine) == toldOptions(mine) && toldOptions(gotGiven) == toldOptions(given)
	if !ok {
		t.Errorf("P13.3, P13.4: after %q: %s, state %d, %d dropped, %s %s, want %s, state %d, %d dropped, %s %s",
			x.done[max(len(x.done)-30, 0):], toldOut(got), x.n.State(), x.n.Dropped(), toldOptions(gotMine), toldOptions(gotGiven),
			toldOut(want), x.model.State(), x.model.dropped, toldOptions(mine), toldOptions(given))
	}
	for _, p := range got.Send[:cap(got.Send)] {
		scribble(p.Data)
	}
	scribbleOptions(gotMine)
	scribbleOptions(gotGiven)
	return ok
}

func (x *twin) input(t *testing.T, p api.Packet) bool {
	t.Helper()
	in := api.Packet{Code: p.Code, Id: p.Id, Data: roomy(p.Data)}
	before := fmt.Sprintf("%X", in.Data[:cap(in.Data)])
	got := x.n.Input(in)
	if fmt.Sprintf("%X", in.Data[:cap(in.Data)]) != before {
		t.Errorf("R4: Input changed %X", p.Data)
	}
	scribble(in.Data)
	return x.same(t, fmt.Sprintf("Input(%d #%d %X)", p.Code, p.Id, p.Data), got, x.model.input(p))
}

func (x *twin) ask(t *testing.T, l []api.Option) bool {
	t.Helper()
	in := roomyOptions(l)
	before := whole(in)
	x.n.Ask(in)
	if whole(in) != before {
		t.Errorf("R4: Ask changed %s", toldOptions(l))
	}
	scribbleOptions(in)
	x.model.ask(l)
	return x.same(t, "Ask("+toldOptions(l)+")", nego.Out{}, nego.Out{})
}

// last is the last Configure-Request, or another packet where there is none.
func (x *twin) last() api.Packet {
	if len(x.model.last) == 0 {
		return request(0)
	}
	return x.model.last[len(x.model.last)-1]
}

// anyPacket draws packets that mean something, as they are and with changes.
func (x *twin) anyPacket(r *rand.Rand) api.Packet {
	last := x.last()
	asked, _ := packet.Split(last.Data)
	p := api.Packet{Id: last.Id}
	switch r.IntN(12) {
	case 0, 1, 2:
		p = request(r.IntN(256), anyOptions(r)...)
	case 3:
		p = request(r.IntN(256), x.fitting(r)...)
	case 4, 5, 6:
		p.Code, p.Data = api.ConfAck, last.Data
	case 7:
		p.Code, p.Data = api.ConfNak, bytesOf(mutated(r, asked)...)
	case 8:
		p.Code, p.Data = api.ConfRej, bytesOf(asked[:r.IntN(len(asked)+1)]...)
	case 9:
		p = plain(api.TermReq+r.IntN(2), r.IntN(256), anyData(r)...)
	case 10:
		p = plain(api.CodeRej, r.IntN(256), anyData(r)...)
	default:
		p = plain(r.IntN(20), r.IntN(256), anyData(r)...)
	}
	switch r.IntN(12) {
	case 0:
		p.Id = (p.Id + r.IntN(5) - 2) & 255
	case 1:
		p.Data = append(slices.Clone(p.Data), anyData(r)...)
	case 2:
		p.Data = p.Data[:r.IntN(len(p.Data)+1)]
	case 3:
		p.Data = slices.Clone(p.Data)
		if len(p.Data) > 0 {
			p.Data[r.IntN(len(p.Data))] ^= 1 << r.IntN(8)
		}
	case 4:
		p.Code = r.IntN(12)
	}
	return p
}

// fitting is a request that the rules let pass, if there is one.
func (x *twin) fitting(r *rand.Rand) []api.Option {
	for range 40 {
		l := anyOptions(r)
		for range 3 {
			code, answer := modelJudge(x.model.rules, l, false)
			switch code {
			case api.ConfAck:
				return l
			case api.ConfRej:
				l = slices.DeleteFunc(slices.Clone(l), func(o api.Option) bool { return modelOccurs(answer, o) })
			default:
				l = answer
			}
		}
	}
	return nil
}

// anyCall makes one call on both.
func (x *twin) anyCall(t *testing.T, r *rand.Rand) bool {
	t.Helper()
	switch n := r.IntN(40); {
	case n < 4:
		event := []int{api.Up, api.Open, api.Open, api.Up, api.Down, api.Close}[r.IntN(6)]
		return x.same(t, fmt.Sprintf("Do(%d)", event), x.n.Do(event), x.model.do(event))
	case n == 4:
		event := r.IntN(api.Events+4) - 2
		return x.same(t, fmt.Sprintf("Do(%d)", event), x.n.Do(event), x.model.do(event))
	case n == 5:
		l := anyOptions(r)
		if r.IntN(4) == 0 {
			l = append(l, opt(256))
		}
		return x.ask(t, l)
	case n < 10:
		return x.same(t, "Tick", x.n.Tick(), x.model.tick())
	}
	return x.input(t, x.anyPacket(r))
}

// P13.3 and P13.4, with R4 and R5: long random sequences of calls against the
// words. All that is handed in is scribbled on behind the call, and all that is
// handed out, too.
func TestAnyCalls(t *testing.T) {
	r := rand.New(rand.NewPCG(13, 2))
	var visited [api.Opened + 1]int
	for range 3000 {
		x := newTwin(t, anyRules(r), anyOptions(r), 1+r.IntN(4), 1+r.IntN(3))
		for range 20 + r.IntN(200) {
			if !x.anyCall(t, r) {
				return
			}
			visited[x.n.State()]++
		}
	}
	for state, n := range visited {
		if n < 1000 {
			t.Errorf("state %d was visited %d times", state, n)
		}
	}
}

// R4: what is handed out stays as it is, whatever is called later.
func TestWhatIsHandedOutStays(t *testing.T) {
	r := rand.New(rand.NewPCG(13, 3))
	for range 300 {
		l := []nego.Rule{{Type: 1, How: nego.Any, Len: -1}, {Type: 2, How: nego.Range, Len: 1, Lo: 9, Hi: 99}}
		n := newNego(t, l, list(opt(1, anyData(r)...), opt(2, 50)), 3, 2)
		n.Do(api.Open)
		var outs []nego.Out
		var agreed [][]api.Option
		var texts []string
		keep := func(out nego.Out) nego.Out {
			mine, given := n.Mine(), n.Given()
			outs = append(outs, out)
			agreed = append(agreed, mine, given)
			texts = append(texts, toldOut(out)+toldOptions(mine)+toldOptions(given))
			return out
		}
		last := keep(n.Do(api.Up)).Send[0]
		for range 50 {
			p := last
			switch r.IntN(6) {
			case 0, 1:
				p.Code = api.ConfAck
			case 2:
				p = nak(last.Id, opt(1, anyData(r)...), opt(2, byte(r.IntN(256))))
			case 3:
				p = plain(api.TermAck, 1)
			default:
				p = request(r.IntN(256), opt(1, anyData(r)...))
			}
			for _, sent := range append(keep(n.Input(p)).Send, keep(n.Tick()).Send...) {
				if sent.Code == api.ConfReq {
					last = sent
				}
			}
		}
		for i, text := range texts {
			if got := toldOut(outs[i]) + toldOptions(agreed[2*i]) + toldOptions(agreed[2*i+1]); got != text {
				t.Fatalf("R4: call %d: %s, and later %s", i, text, got)
			}
		}
	}
}
