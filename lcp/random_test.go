package lcp_test

import (
	"fmt"
	"math/rand/v2"
	"slices"
	"testing"

	"fairlead/api"
	"fairlead/lcp"
	"fairlead/packet"
)

// twin is an Lcp and its model, on which the same calls are made.
type twin struct {
	l     *lcp.Lcp
	model *model
	done  []string
}

func newTwin(t *testing.T, c api.Config, drawn uint32) *twin {
	t.Helper()
	x := &twin{l: newLcp(t, c, drawn), model: newModel(c, drawn)}
	x.done = append(x.done, fmt.Sprintf("New(%+v, %X)", c, drawn))
	return x
}

// same tells whether a call led to the same on both, and scribbles all over what
// the Lcp handed out.
func (x *twin) same(t *testing.T, call string, got, want lcp.Out) bool {
	t.Helper()
	x.done = append(x.done, call)
	mine, peer := x.model.agreed()
	ok := toldOut(got) == toldOut(want) && x.l.State() == x.model.State() && x.l.Dropped() == x.model.dropped &&
		x.l.Mine() == mine && x.l.Peer() == peer
	if !ok {
		t.Errorf("P14.3, P14.4: after %q: %s, state %d, %d dropped, %+v %+v, want %s, state %d, %d dropped, %+v %+v",
			x.done[max(len(x.done)-30, 0):], toldOut(got), x.l.State(), x.l.Dropped(), x.l.Mine(), x.l.Peer(),
			toldOut(want), x.model.State(), x.model.dropped, mine, peer)
	}
	scribblePackets(got.Send)
	return ok
}

func (x *twin) input(t *testing.T, p api.Packet) bool {
	t.Helper()
	in := plain(p.Code, p.Id, roomy(p.Data)...)
	before := fmt.Sprintf("%X", in.Data[:cap(in.Data)])
	got := x.l.Input(in)
	if fmt.Sprintf("%X", in.Data[:cap(in.Data)]) != before {
		t.Errorf("R4: Input changed %s", toldPacket(p))
	}
	scribble(in.Data)
	return x.same(t, "Input"+toldPacket(p), got, x.model.input(p))
}

func (x *twin) refuse(t *testing.T, proto int, info []byte) bool {
	t.Helper()
	in := roomy(info)
	before := fmt.Sprintf("%X", in[:cap(in)])
	got := x.l.Refuse(proto, in)
	if fmt.Sprintf("%X", in[:cap(in)]) != before {
		t.Errorf("R4: Refuse changed %X", info)
	}
	scribble(in)
	return x.same(t, fmt.Sprintf("Refuse(%X, %X)", proto, info), got, x.model.refuse(proto, info))
}

func (x *twin) do(t *testing.T, event int) bool {
	t.Helper()
	return x.same(t, fmt.Sprintf("Do(%d)", event), x.l.Do(event), x.model.do(event))
}

func (x *twin) tick(t *testing.T) bool {
	t.Helper()
	return x.same(t, "Tick", x.l.Tick(), x.model.tick())
}

func (x *twin) draw(t *testing.T, drawn uint32) bool {
	t.Helper()
	x.l.Draw(drawn)
	x.model.draw(drawn)
	return x.same(t, fmt.Sprintf("Draw(%X)", drawn), lcp.Out{}, lcp.Out{})
}

// twinIn is an Lcp and its model in a state.
func twinIn(t *testing.T, c api.Config, drawn uint32, state int, given ...api.Option) *twin {
	t.Helper()
	x := newTwin(t, c, drawn)
	calls, _ := path(c, drawn, state, given...)
	for _, call := range calls {
		if call.event < 0 {
			x.input(t, call.p)
		} else {
			x.do(t, call.event)
		}
	}
	wantState(t, "on the way", x.l, state)
	return x
}

// asked is the last Configure-Request's identifier and its options.
func (x *twin) asked() (int, []api.Option) {
	if len(x.model.last) == 0 {
		return 0, nil
	}
	last := x.model.last[len(x.model.last)-1]
	l, _ := packet.Split(last.Data)
	return last.Id, l
}

func anyData(r *rand.Rand) []byte {
	b := make([]byte, r.IntN(9))
	for i := range b {
		b[i] = byte(r.IntN(256))
	}
	return b
}

// anyRequest draws a request, more often one that is acknowledged or that has
// the Magic of the own one.
func (x *twin) anyRequest(r *rand.Rand) api.Packet {
	id, own := x.asked()
	drawn := lcp.Read(own).Magic
	id = r.IntN(256)
	var fits []api.Option
	if !x.model.config.Server {
		fits = list(auth())
	}
	switch r.IntN(7) {
	case 0, 1:
		return request(id, append(fits, magic(drawn))...)
	case 2:
		return request(id, append(fits, magic(drawn), anyOption(r))...)
	case 3:
		return request(id, append(fits, magic(drawn+1))...)
	case 4:
		return request(id, own...)
	case 5:
		return request(id, anyOptions(r)...)
	}
	return request(id, fits...)
}

// anyPacket draws packets that mean something, as they are and with changes.
func (x *twin) anyPacket(r *rand.Rand) api.Packet {
	id, own := x.asked()
	var p api.Packet
	switch r.IntN(16) {
	case 0, 1, 2:
		p = x.anyRequest(r)
	case 3, 4, 5, 6:
		p = ack(id, own...)
	case 7:
		p = nak(id, anyOptions(r)...)
	case 8:
		p = reject(id, own[:r.IntN(len(own)+1)]...)
	case 9:
		p = plain(api.TermReq+r.IntN(2), r.IntN(256), anyData(r)...)
	case 10:
		p = plain(api.CodeRej, r.IntN(256), anyData(r)...)
	case 11, 12:
		p = plain(api.EchoReq+r.IntN(3), r.IntN(256), anyData(r)...)
	case 13:
		protocols := []byte{0xc0, 0x21, 0x80, 0xfd, 0xc2, 0x23, 0, 0}
		at := 2 * r.IntN(len(protocols)/2)
		p = plain(api.ProtRej, r.IntN(256), append(protocols[at:at+2:at+2], anyData(r)...)...)
	default:
		p = plain(r.IntN(20), r.IntN(256), anyData(r)...)
	}
	return mutated(r, p)
}

// mutated is a packet with a change in it, or as it is.
func mutated(r *rand.Rand, p api.Packet) api.Packet {
	p.Data = slices.Clone(p.Data)
	switch r.IntN(20) {
	case 0:
		p.Id = (p.Id + r.IntN(5) - 2) & 255
	case 1:
		p.Data = append(p.Data, anyData(r)...)
	case 2:
		p.Data = p.Data[:r.IntN(len(p.Data)+1)]
	case 3:
		if len(p.Data) > 0 {
			p.Data[r.IntN(len(p.Data))] ^= 1 << r.IntN(8)
		}
	case 4:
		p.Code = r.IntN(16)
	}
	return p
}

// anyCall makes one call on both.
func (x *twin) anyCall(t *testing.T, r *rand.Rand) bool {
	t.Helper()
	switch n := r.IntN(45); {
	case n < 4:
		return x.do(t, []int{api.Up, api.Open, api.Open, api.Up, api.Down, api.Close}[r.IntN(6)])
	case n == 4:
		return x.do(t, r.IntN(api.Events+4)-2)
	case n < 7:
		return x.draw(t, []uint32{0, 1, 2, 0xfffffffe, 0xffffffff, r.Uint32()}[r.IntN(6)])
	case n < 10:
		return x.tick(t)
	case n < 12:
		return x.refuse(t, r.IntN(1<<18)-1<<16, anyData(r))
	}
	return x.input(t, x.anyPacket(r))
}

// P14.3 and P14.4, with R4 and R5: long random sequences of calls against the
// words. All that is handed in is scribbled on behind the call, and all that is
// handed out, too.
func TestAnyCalls(t *testing.T) {
	r := rand.New(rand.NewPCG(14, 3))
	var visited [states]int
	for range 4000 {
		x := newTwin(t, anyConfig(r), []uint32{0, 1, 0xffffffff, r.Uint32()}[r.IntN(4)])
		for range 20 + r.IntN(200) {
			if !x.anyCall(t, r) {
				return
			}
			visited[x.l.State()]++
		}
	}
	for state, n := range visited {
		if n < 1000 {
			t.Errorf("state %d was visited %d times", state, n)
		}
	}
}

// R4: what is handed out stays as it is, whatever is called later.
func TestWhatIsHandedOutStays(t *testing.T) {
	r := rand.New(rand.NewPCG(14, 4))
	for range 300 {
		x := &twin{l: newLcp(t, full(r.IntN(2) == 0), 7)}
		x.model = newModel(full(false), 7)
		var outs []lcp.Out
		var texts []string
		keep := func(out lcp.Out) {
			outs, texts = append(outs, out), append(texts, toldOut(out))
			for _, p := range out.Send {
				if p.Code == api.ConfReq {
					x.model.last = append(x.model.last, plain(p.Code, p.Id, slices.Clone(p.Data)...))
				}
			}
		}
		keep(x.l.Do(api.Open))
		keep(x.l.Do(api.Up))
		for range 60 {
			keep(x.l.Input(x.anyPacket(r)))
			keep(x.l.Refuse(r.IntN(1<<16), anyData(r)))
			keep(x.l.Tick())
			x.l.Draw(r.Uint32())
		}
		for i, text := range texts {
			if got := toldOut(outs[i]); got != text {
				t.Fatalf("R4: call %d: %s, and later %s", i, text, got)
			}
		}
	}
}

// R4: the lists of one answer share no memory with each other.
func TestListsOfOneAnswerShareNothing(t *testing.T) {
	both := sends(request(2, lcp.Ask(full(true), 7)...), nak(3, magic(8)))
	for at := range both.Send {
		l, _ := in(t, full(true), 7, api.Opened)
		out := l.Input(request(3, magic(7)))
		wantOut(t, "R4: a request of one's own in Opened", out, down(both))
		scribble(out.Send[at].Data)
		wantOut(t, "R4: what was not scribbled on", sends(out.Send[1-at]), sends(both.Send[1-at]))
	}
}
