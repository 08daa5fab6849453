package nego_test

import (
	"fmt"
	"math"
	"slices"
	"testing"

	"fairlead/api"
	"fairlead/nego"
	"fairlead/packet"
)

// P13.3: the errors of New, in their order, and what a new negotiator is.
func TestNew(t *testing.T) {
	right := []int{1, 2, 10, 999, 1000}
	wrong := []int{math.MinInt, -1, 0, 1001, 1 << 32, 1<<32 + 1, math.MaxInt}
	for _, tries := range slices.Concat(right, wrong) {
		for _, timeout := range slices.Concat(right, wrong) {
			want := api.OK
			if slices.Contains(wrong, tries) || slices.Contains(wrong, timeout) {
				want = api.ErrArg
			}
			wantNew(t, fmt.Sprintf("P13.3: tries %d, timeout %d", tries, timeout), asks(), tries, timeout, want)
		}
	}
	long, tooLong := make([]byte, 253), make([]byte, 254)
	most := slices.Repeat(list(opt(3, long...)), api.MaxOptions)
	for _, c := range []struct {
		what string
		ask  []api.Option
		want api.Errno
	}{
		{"no options", nil, api.OK},
		{"one option without data", list(opt(0)), api.OK},
		{"the greatest type", list(opt(255)), api.OK},
		{"a type twice, and no rule", list(opt(77), opt(77)), api.OK},
		{"as many options with as much data as may be", most, api.OK},
		{"too many options", append(slices.Clone(most), opt(1)), api.ErrArg},
		{"a type below 0", list(opt(1), opt(-1)), api.ErrArg},
		{"a type above 255", list(opt(1), opt(256)), api.ErrArg},
		{"too much data", list(opt(1), opt(2, tooLong...)), api.ErrArg},
	} {
		wantNew(t, "P13.3: "+c.what, c.ask, 1, 1, c.want)
		wantNew(t, "P13.3: "+c.what+", and no tries", c.ask, 0, 1, api.ErrArg)
		wantNew(t, "P13.3: "+c.what+", and no timeout", c.ask, 1, 0, api.ErrArg)
	}
}

func wantNew(t *testing.T, what string, ask []api.Option, tries, timeout int, want api.Errno) {
	t.Helper()
	n, err := nego.New(rules(), ask, tries, timeout)
	if err != want || (n != nil) != (want == api.OK) {
		t.Errorf("%s: %v, %d, want %d", what, n, err, want)
		return
	}
	if n == nil {
		return
	}
	wantState(t, what, n, api.Initial)
	wantDropped(t, what, n, 0)
	wantAgreed(t, what, n, nil, nil)
	wantOut(t, what+": Tick", n.Tick(), nego.Out{})
	wantOut(t, what+": Open", n.Do(api.Open), nego.Out{Start: true})
	wantOut(t, what+": Up", n.Do(api.Up), sends(request(1, ask...)))
}

// P13.3: each event of Do in each state.
func TestDo(t *testing.T) {
	const initial, starting, closed, stopped, closing, stopping = api.Initial, api.Starting, api.Closed, api.Stopped, api.Closing, api.Stopping
	const reqSent, ackRcvd, ackSent, opened = api.ReqSent, api.AckRcvd, api.AckSent, api.Opened
	none := nego.Out{}
	asked := func(id int) nego.Out { return sends(request(id, asks()...)) }
	ends := func(id int) nego.Out { return sends(plain(api.TermReq, id)) }
	down := func(out nego.Out) nego.Out { out.Down = true; return out }
	for _, c := range []struct {
		event, state int
		want         nego.Out
		next         int
	}{
		{api.Up, initial, none, closed}, {api.Up, starting, asked(1), reqSent},
		{api.Up, closed, none, closed}, {api.Up, stopped, none, stopped}, {api.Up, closing, none, closing},
		{api.Up, stopping, none, stopping}, {api.Up, reqSent, none, reqSent}, {api.Up, ackRcvd, none, ackRcvd},
		{api.Up, ackSent, none, ackSent}, {api.Up, opened, none, opened},
		{api.Down, initial, none, initial}, {api.Down, starting, none, starting},
		{api.Down, closed, none, initial}, {api.Down, stopped, nego.Out{Start: true}, starting},
		{api.Down, closing, none, initial}, {api.Down, stopping, none, starting}, {api.Down, reqSent, none, starting},
		{api.Down, ackRcvd, none, starting}, {api.Down, ackSent, none, starting}, {api.Down, opened, down(none), starting},
		{api.Open, initial, nego.Out{Start: true}, starting}, {api.Open, starting, none, starting},
		{api.Open, closed, asked(1), reqSent}, {api.Open, stopped, none, stopped}, {api.Open, closing, none, stopping},
		{api.Open, stopping, none, stopping}, {api.Open, reqSent, none, reqSent}, {api.Open, ackRcvd, none, ackRcvd},
		{api.Open, ackSent, none, ackSent}, {api.Open, opened, none, opened},
		{api.Close, initial, none, initial}, {api.Close, starting, nego.Out{Done: true}, initial},
		{api.Close, closed, none, closed}, {api.Close, stopped, none, closed}, {api.Close, closing, none, closing},
		{api.Close, stopping, none, closing}, {api.Close, reqSent, ends(2), closing}, {api.Close, ackRcvd, ends(2), closing},
		{api.Close, ackSent, ends(2), closing}, {api.Close, opened, down(ends(2)), closing},
	} {
		what := fmt.Sprintf("P13.3: event %d in state %d", c.event, c.state)
		n, _ := in(t, c.state, 5, 5)
		wantOut(t, what, n.Do(c.event), c.want)
		wantState(t, what, n, c.next)
	}
}

// P13.3: the events that come from packets and from the timer, and numbers that
// are no events, do nothing.
func TestDoOfOthers(t *testing.T) {
	others := []int{math.MinInt, -1 << 32, -2, -1, api.Events, api.Events + 1, 255, 256, 1 << 32, math.MaxInt}
	for event := api.Close + 1; event < api.Events; event++ {
		others = append(others, event)
	}
	for state := range paths() {
		for _, event := range others {
			what := fmt.Sprintf("P13.3: event %d in state %d", event, state)
			n, id := in(t, state, 5, 5)
			wantOut(t, what, n.Do(event), nego.Out{})
			wantState(t, what, n, state)
			wantDropped(t, what, n, 0)
			if state > api.Starting {
				wantOut(t, what+", and behind it", n.Input(plain(api.Discard, 3)), sends(plain(api.CodeRej, id+1, 11, 3, 0, 4)))
			}
		}
	}
}

// P13.3: what is sent, action by action, and what becomes of the layer.
func TestActions(t *testing.T) {
	n := newNego(t, rules(), asks(), 3, 2)
	wantOut(t, "P13.3: LayerStart", n.Do(api.Open), nego.Out{Start: true})
	wantOut(t, "P13.3: SendReq", n.Do(api.Up), sends(request(1, asks()...)))
	wantOut(t, "P13.3: no action", n.Tick(), nego.Out{})
	wantOut(t, "P13.3: SendReq again", n.Tick(), sends(request(2, asks()...)))
	wantOut(t, "P13.3: SendNak", n.Input(request(77, bad()...)), sends(nak(77, opt(1, 5, 0xdc))))
	wantOut(t, "P13.3: SendNak, a reject", n.Input(request(255, opt(9))), sends(reject(255, opt(9))))
	wantOut(t, "P13.3: SendAck", n.Input(request(0, good()...)), sends(ack(0, good()...)))
	wantOut(t, "P13.3: SendTermAck", n.Input(plain(api.TermReq, 99, 1, 2)), sends(plain(api.TermAck, 99)))
	wantOut(t, "P13.3: SendCodeRej", n.Input(plain(api.ProtRej, 98, 1, 2)), sends(plain(api.CodeRej, 3, 8, 98, 0, 6, 1, 2)))
	wantOut(t, "P13.3: InitCount alone", n.Input(ack(2, asks()...)), nego.Out{})
	wantOut(t, "P13.3: SendAck and LayerUp", n.Input(request(1, good()...)), nego.Out{Send: sends(ack(1, good()...)).Send, Up: true})
	wantOut(t, "P13.3: LayerDown, SendReq and SendNak", n.Input(request(2, bad()...)),
		nego.Out{Send: sends(request(4, asks()...), nak(2, opt(1, 5, 0xdc))).Send, Down: true})
	n.Input(ack(4, asks()...))
	n.Input(request(3, good()...))
	wantOut(t, "P13.3: LayerDown, SendReq and SendAck", n.Input(request(4, good()...)),
		nego.Out{Send: sends(request(5, asks()...), ack(4, good()...)).Send, Down: true})
	wantOut(t, "P13.3: LayerUp", n.Input(ack(5, asks()...)), nego.Out{Up: true})
	wantOut(t, "P13.3: LayerDown and SendTermReq", n.Do(api.Close), nego.Out{Send: sends(plain(api.TermReq, 6)).Send, Down: true})
	wantOut(t, "P13.3: no action", n.Tick(), nego.Out{})
	wantOut(t, "P13.3: SendTermReq", n.Tick(), sends(plain(api.TermReq, 7)))
	wantOut(t, "P13.3: LayerDone", n.Input(plain(api.TermAck, 200)), nego.Out{Done: true})
	wantState(t, "P13.3: LayerDone", n, api.Closed)
	wantOut(t, "P13.3: SendTermAck that answers no Terminate-Request", n.Input(request(50, good()...)), sends(plain(api.TermAck, 8)))
	wantOut(t, "P13.3: SendTermAck that answers no Terminate-Request", n.Input(request(50, bad()...)), sends(plain(api.TermAck, 9)))
	wantOut(t, "P13.3: SendTermAck that answers one", n.Input(plain(api.TermReq, 50)), sends(plain(api.TermAck, 50)))
	wantOut(t, "P13.3: SendReq", n.Do(api.Open), sends(request(10, asks()...)))
	wantOut(t, "P13.3: LayerDone by RejBad", n.Input(plain(api.CodeRej, 1, 1)), nego.Out{Done: true})
	wantOut(t, "P13.3: SendReq and SendAck", n.Input(request(51, good()...)), sends(request(11, asks()...), ack(51, good()...)))
	n.Input(ack(11, asks()...))
	wantOut(t, "P13.3: LayerDown and SendTermAck", n.Input(plain(api.TermReq, 52)), nego.Out{Send: sends(plain(api.TermAck, 52)).Send, Down: true})
	n.Tick()
	wantOut(t, "P13.3: LayerDone by the timer", n.Tick(), nego.Out{Done: true})
	wantDropped(t, "P13.3", n, 0)
}

// P13.3: in Stopped and Closed, an answer to what was asked earlier gets a
// Terminate-Ack with an own identifier.
func TestTermAckToAnAnswer(t *testing.T) {
	for _, p := range []api.Packet{ack(1, asks()...), nak(1, opt(1, 1, 1)), reject(1, opt(1, 5, 0xdc))} {
		n, id := in(t, api.Stopped, 5, 5)
		wantOut(t, fmt.Sprintf("P13.3: code %d in Stopped", p.Code), n.Input(p), sends(plain(api.TermAck, id+1)))
		n, id = in(t, api.Closing, 5, 5)
		n.Input(plain(api.TermAck, 0))
		wantState(t, "P13.3", n, api.Closed)
		wantOut(t, fmt.Sprintf("P13.3: code %d in Closed", p.Code), n.Input(p), sends(plain(api.TermAck, id+1)))
	}
}

// P13.3: the identifiers of all that is sent, beyond 256 of them, of each kind
// and mixed; answers use up none.
func TestIdentifiers(t *testing.T) {
	n := newNego(t, rules(), asks(), 1000, 1)
	n.Do(api.Up)
	wantOut(t, "P13.3: the first identifier", n.Do(api.Open), sends(request(1, asks()...)))
	for k := 2; k < 900; k++ {
		wantOut(t, fmt.Sprintf("P13.3: Configure-Request %d", k), n.Tick(), sends(request(k%256, asks()...)))
	}
	n, id := in(t, api.Closed, 1000, 1)
	for range 600 {
		id++
		wantOut(t, "P13.3: Terminate-Ack", n.Input(request(7)), sends(plain(api.TermAck, id%256)))
	}
	for range 600 {
		id++
		wantOut(t, "P13.3: Code-Reject", n.Input(plain(44, 7)), sends(plain(api.CodeRej, id%256, 44, 7, 0, 4)))
	}
	n.Do(api.Open)
	id++
	n.Do(api.Close)
	id++
	for range 600 {
		id++
		wantOut(t, "P13.3: Terminate-Request", n.Tick(), sends(plain(api.TermReq, id%256)))
	}
	n, id = in(t, api.ReqSent, 1000, 1)
	for k := range 1500 {
		wantOut(t, "P13.3: Configure-Ack", n.Input(request(k%256, good()...)), sends(ack(k%256, good()...)))
		wantOut(t, "P13.3: Terminate-Ack", n.Input(plain(api.TermReq, k%256)), sends(plain(api.TermAck, k%256)))
		switch k % 3 {
		case 0:
			id++
			wantOut(t, "P13.3: Configure-Request", n.Tick(), sends(request(id%256, asks()...)))
		case 1:
			id++
			wantOut(t, "P13.3: Code-Reject", n.Input(plain(44, 7)), sends(plain(api.CodeRej, id%256, 44, 7, 0, 4)))
		default:
			wantOut(t, "P13.3: Configure-Reject", n.Input(request(k%256, opt(9))), sends(reject(k%256, opt(9))))
		}
	}
}

// P13.3: a Code-Reject holds the packet that it rejects, or as much of it as it can.
func TestCodeRejectOfALongPacket(t *testing.T) {
	for _, size := range []int{0, 1, 4, 100, 1491, 1492, 1493, 1494, 1495, 1496} {
		p := api.Packet{Code: 200, Id: 100, Data: make([]byte, size)}
		for i := range p.Data {
			p.Data[i] = byte(i + i>>8)
		}
		b, err := packet.Encode(p)
		if err != api.OK {
			t.Fatalf("%d bytes: %d", size, err)
		}
		want := plain(api.CodeRej, 2, b[:min(len(b), api.MaxPacket-4)]...)
		n, _ := in(t, api.ReqSent, 5, 5)
		out := n.Input(p)
		wantOut(t, fmt.Sprintf("P13.3: a packet with %d bytes", size), out, sends(want))
		if _, err := packet.Encode(out.Send[0]); err != api.OK {
			t.Errorf("P13.3: the Code-Reject of a packet with %d bytes has no encoding: %d", size, err)
		}
	}
	// Without an encoding there is nothing to send back.
	for _, p := range []api.Packet{
		plain(256, 1, 1, 2), plain(-1, 1, 1, 2), plain(math.MaxInt, 1), plain(20, 256, 1), plain(20, -1, 1), plain(20, 1, make([]byte, 1497)...),
	} {
		n, _ := in(t, api.Opened, 5, 5)
		wantOut(t, fmt.Sprintf("P13.3: a packet of code %d without encoding", p.Code), n.Input(p), sends(plain(api.CodeRej, 2)))
		wantState(t, "P13.3", n, api.Opened)
	}
}

// P13.3: with Up, whatever the state, the request is the first one again and no
// Configure-Nak counts any more.
func TestUpBeginsAgain(t *testing.T) {
	for state := api.ReqSent; state <= api.Opened; state++ {
		n, _ := in(t, state, 2, 1)
		for range 2 {
			n.Input(request(1, bad()...))
		}
		n.Do(api.Down)
		n.Do(api.Up)
		id := n.Input(plain(50, 1)).Send[0].Id
		wantOut(t, "P13.3: a Nak behind Up", n.Input(request(1, bad()...)), sends(nak(1, opt(1, 5, 0xdc))))
		wantOut(t, "P13.3: the second Nak behind Up", n.Input(request(1, bad()...)), sends(nak(1, opt(1, 5, 0xdc))))
		wantOut(t, "P13.3: behind the Naks", n.Input(request(1, bad()...)), sends(reject(1, bad()...)))
		n.Do(api.Up) // where it has no action
		wantOut(t, "P13.3: a Nak behind the next Up", n.Input(request(1, bad()...)), sends(nak(1, opt(1, 5, 0xdc))))

		wantOut(t, "P13.3: a request that a reject changed", n.Input(reject(id-1, asks()[1:]...)), sends(request(id+1, asks()[:1]...)))
		n.Do(api.Up)
		wantOut(t, "P13.3: the request behind an Up without action", n.Tick(), sends(request(id+2, asks()...)))
	}
	n, _ := in(t, api.ReqSent, 2, 5)
	wantOut(t, "P13.3: a request that a Nak changed", n.Input(nak(1, opt(1, 1, 1))), sends(request(2, opt(1, 1, 1), asks()[1])))
	n.Do(api.Down)
	wantOut(t, "P13.3: the request behind Down and Up", n.Do(api.Up), sends(request(3, asks()...)))
	n.Input(nak(3, opt(1, 1, 1)))
	n.Do(api.Close)
	n.Input(plain(api.TermAck, 1))
	wantOut(t, "P13.3: the request behind Close and Open is the changed one", n.Do(api.Open), sends(request(6, opt(1, 1, 1), asks()[1])))
	n.Do(api.Down)
	n.Do(api.Close)
	n.Do(api.Up)
	wantOut(t, "P13.3: the request behind Up and Open", n.Do(api.Open), sends(request(7, asks()...)))
}

// P13.4: Ask ahead of Up, behind it, and in every state.
func TestAsk(t *testing.T) {
	other, third := list(opt(5, 9, 9, 9, 9)), list(opt(1, 1, 1))
	n := newNego(t, rules(), asks(), 5, 1)
	n.Ask(other)
	wantOut(t, "P13.4: Ask ahead of LayerStart", n.Do(api.Open), nego.Out{Start: true})
	n.Ask(third)
	wantOut(t, "P13.4: Ask ahead of Up", n.Do(api.Up), sends(request(1, third...)))
	n.Ask(other)
	wantOut(t, "P13.4: Ask behind Up", n.Tick(), sends(request(2, third...)))
	wantOut(t, "P13.4: a Nak behind Ask", n.Input(nak(2, opt(1, 2, 2))), sends(request(3, opt(1, 2, 2))))
	n.Do(api.Down)
	wantOut(t, "P13.4: Ask, and then Down and Up", n.Do(api.Up), sends(request(4, other...)))
	n.Do(api.Up)
	wantOut(t, "P13.4: the same behind another Up", n.Tick(), sends(request(5, other...)))
	n.Ask(third)
	n.Do(api.Up)
	wantOut(t, "P13.4: Ask and an Up without action", n.Tick(), sends(request(6, third...)))
	n.Ask(nil)
	n.Do(api.Down)
	wantOut(t, "P13.4: Ask for nothing", n.Do(api.Up), sends(request(7)))

	n = newNego(t, rules(), asks(), 5, 1)
	n.Do(api.Up)
	n.Ask(other)
	wantOut(t, "P13.4: Ask between Up and Open", n.Do(api.Open), sends(request(1, asks()...)))

	most := slices.Repeat(list(opt(3, make([]byte, 253)...)), api.MaxOptions)
	n = newNego(t, rules(), asks(), 5, 1)
	n.Ask(most)
	n.Do(api.Open)
	wantOut(t, "P13.4: Ask for as much as may be", n.Do(api.Up), sends(request(1, most...)))
	for _, l := range [][]api.Option{append(slices.Clone(most), opt(1)), list(opt(1), opt(256)), list(opt(-1)), list(opt(1, make([]byte, 254)...))} {
		n := newNego(t, rules(), asks(), 5, 1)
		n.Ask(other)
		n.Ask(l)
		n.Do(api.Open)
		wantOut(t, "P13.4: Ask for options that packet.Options refuses", n.Do(api.Up), sends(request(1, other...)))
	}
	for state := range paths() {
		what := fmt.Sprintf("P13.4: Ask in state %d", state)
		n, id := in(t, state, 5, 5)
		n.Ask(other)
		wantState(t, what, n, state)
		if state == api.Opened {
			wantAgreed(t, what, n, asks(), good())
		}
		n.Do(api.Down)
		n.Do(api.Open)
		wantOut(t, what, n.Do(api.Up), sends(request(id+1, other...)))
	}
}

// R7: a nil negotiator, and one that New did not make.
func TestUnmade(t *testing.T) {
	for _, n := range []*nego.Nego{nil, new(nego.Nego)} {
		for event := -1; event <= api.Events; event++ {
			wantOut(t, "R7: Do", n.Do(event), nego.Out{})
		}
		for code := range 20 {
			wantOut(t, "R7: Input", n.Input(plain(code, 1, 1)), nego.Out{})
		}
		n.Ask(asks())
		wantOut(t, "R7: Tick", n.Tick(), nego.Out{})
		wantState(t, "R7", n, 0)
		wantDropped(t, "R7", n, 0)
		wantAgreed(t, "R7", n, nil, nil)
	}
}
