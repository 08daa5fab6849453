package nego_test

import (
	"fmt"
	"math"
	"slices"
	"testing"

	"fairlead/api"
	"fairlead/nego"
)

// wantDrop wants that a packet does nothing but count.
func wantDrop(t *testing.T, what string, n *nego.Nego, p api.Packet) {
	t.Helper()
	state, mine, given, dropped := n.State(), n.Mine(), n.Given(), n.Dropped()
	wantOut(t, what, n.Input(p), nego.Out{})
	wantState(t, what, n, state)
	wantAgreed(t, what, n, mine, given)
	wantDropped(t, what, n, dropped+1)
}

// wantInput wants what comes of a packet, which is not dropped.
func wantInput(t *testing.T, what string, n *nego.Nego, p api.Packet, want nego.Out, next int) {
	t.Helper()
	dropped := n.Dropped()
	wantOut(t, what, n.Input(p), want)
	wantState(t, what, n, next)
	wantDropped(t, what, n, dropped)
}

// P13.4: in Initial and Starting every packet is dropped.
func TestDropsWhileDown(t *testing.T) {
	var l []api.Packet
	for code := -1; code < 20; code++ {
		for id := range 3 {
			l = append(l, plain(code, id), plain(code, id, 1), plain(code, id, 1, 4, 4, 0))
		}
	}
	for id := range 4 {
		l = append(l, request(id, good()...), ack(id, asks()...), nak(id, opt(1, 1, 1)), reject(id, asks()[0]))
	}
	for _, state := range []int{api.Initial, api.Starting} {
		n, _ := in(t, state, 5, 5)
		for _, p := range l {
			wantDrop(t, fmt.Sprintf("P13.4: code %d in state %d", p.Code, state), n, p)
		}
		n, _ = in(t, api.Opened, 5, 5) // and behind an Up and a Down
		n.Do(api.Down)
		if state == api.Initial {
			n.Do(api.Close)
		}
		for _, p := range l {
			wantDrop(t, fmt.Sprintf("P13.4: code %d in state %d, later", p.Code, state), n, p)
		}
		wantState(t, "P13.4", n, state)
	}
}

// P13.4: each reason for which a packet is dropped in ReqSent, and the packets
// beside it that are not.
func TestDrops(t *testing.T) {
	first, second := asks()[0], asks()[1]
	whole := bytesOf(asks()...)
	other := func(at int) []byte {
		b := slices.Clone(whole)
		b[at] ^= 1
		return b
	}
	var long []byte
	for range api.MaxOptions + 1 {
		long = append(long, 9, 2)
	}
	drops := func(p api.Packet) bool {
		n, _ := in(t, api.ReqSent, 5, 5)
		what := fmt.Sprintf("P13.4: (%d #%d %X)", p.Code, p.Id, p.Data)
		out := n.Input(p)
		switch n.Dropped() {
		case 0:
			return false
		case 1:
			wantOut(t, what, out, nego.Out{})
			wantState(t, what, n, api.ReqSent)
			// What is dropped is no answer: the right one counts.
			wantInput(t, what+", and then a Configure-Ack", n, ack(1, asks()...), nego.Out{}, api.AckRcvd)
			wantOut(t, what+", and then a Configure-Request", n.Input(request(1)), nego.Out{Send: sends(ack(1)).Send, Up: true})
			wantAgreed(t, what, n, asks(), nil)
			return true
		}
		t.Errorf("%s: %d dropped", what, n.Dropped())
		return false
	}
	for _, c := range []struct {
		what string
		p    api.Packet
		want bool
	}{
		{"a request", request(1, good()...), false},
		{"a request without options", plain(api.ConfReq, 1), false},
		{"a request with half an option", plain(api.ConfReq, 1, 1), true},
		{"a request with a length of 1", plain(api.ConfReq, 1, 1, 1), true},
		{"a request with a length of 0", plain(api.ConfReq, 1, 1, 0), true},
		{"a request with too long an option", plain(api.ConfReq, 1, 1, 5, 5, 0xdc), true},
		{"a request whose second option is wrong", plain(api.ConfReq, 1, 1, 4, 4, 0, 1), true},
		{"a request with as many options as may be", plain(api.ConfReq, 1, long[2:]...), false},
		{"a request with too many options", plain(api.ConfReq, 1, long...), true},
		{"a request with any identifier", request(-5, good()...), false},

		{"an Ack", ack(1, asks()...), false},
		{"an Ack with an identifier that was not used", ack(2, asks()...), true},
		{"an Ack with the identifier 0", ack(0, asks()...), true},
		{"an Ack with a greater identifier, modulo 256 the same", ack(257, asks()...), true},
		{"an Ack with a lower identifier, modulo 256 the same", ack(-255, asks()...), true},
		{"an Ack of the first option alone", ack(1, first), true},
		{"an Ack of no option", ack(1), true},
		{"an Ack with one more option", ack(1, first, second, opt(9)), true},
		{"an Ack in another order", ack(1, second, first), true},
		{"an Ack with other data", ack(1, first, opt(5, 1, 2, 3, 5)), true},
		{"an Ack with half an option", plain(api.ConfAck, 1, whole[:len(whole)-1]...), true},
		{"an Ack with another byte behind it", plain(api.ConfAck, 1, append(slices.Clone(whole), 0)...), true},

		{"a Nak", nak(1, opt(1, 4, 0)), false},
		{"a Nak without options", nak(1), false},
		{"a Nak with an option that was not asked for", nak(1, opt(99, 1)), false},
		{"a Nak with the same options", nak(1, asks()...), false},
		{"a Nak with an older identifier", nak(0, opt(1, 4, 0)), true},
		{"a Nak with a greater identifier", nak(2, opt(1, 4, 0)), true},
		{"a Nak with half an option", plain(api.ConfNak, 1, 1, 4, 4), true},
		{"a Nak with a length of 1", plain(api.ConfNak, 1, 1, 1), true},
		{"a Nak with as many options as may be", plain(api.ConfNak, 1, long[2:]...), false},
		{"a Nak with too many options", plain(api.ConfNak, 1, long...), true},

		{"a Reject of one option", reject(1, second), false},
		{"a Reject of all, in another order", reject(1, second, first), false},
		{"a Reject of an option twice", reject(1, second, second), false},
		{"a Reject without options", reject(1), false},
		{"a Reject with an older identifier", reject(0, second), true},
		{"a Reject with a greater identifier", reject(2, second), true},
		{"a Reject of other data", reject(1, opt(1, 5, 0xdd)), true},
		{"a Reject of fewer data", reject(1, opt(1, 5)), true},
		{"a Reject of another type with these data", reject(1, opt(2, 5, 0xdc)), true},
		{"a Reject of an option that was not asked for, too", reject(1, second, opt(9)), true},
		{"a Reject with half an option", plain(api.ConfRej, 1, bytesOf(first)[:3]...), true},
		{"a Reject with half an option behind a whole one", plain(api.ConfRej, 1, append(bytesOf(first), 9)...), true},

		{"a Code-Reject without data", plain(api.CodeRej, 1), true},
		{"a Code-Reject with one byte", plain(api.CodeRej, 1, 200), false},
		{"a Terminate-Request", plain(api.TermReq, 1), false},
		{"a Terminate-Request with data that are no options", plain(api.TermReq, 1, 1), false},
		{"a Terminate-Ack", plain(api.TermAck, 99), false},
		{"a Terminate-Ack with data that are no options", plain(api.TermAck, 99, 1), false},
		{"an unknown code with data that are no options", plain(77, 1, 1), false},
	} {
		if got := drops(c.p); got != c.want {
			t.Errorf("P13.4: %s: dropped %v, want %v", c.what, got, c.want)
		}
	}
	for at := range whole {
		if !drops(plain(api.ConfAck, 1, other(at)...)) {
			t.Errorf("P13.4: an Ack with another byte %d is not dropped", at)
		}
	}
}

// P13.4: answers twice, to an older request, ahead of any request, and behind
// other answers.
func TestAnswersOnce(t *testing.T) {
	answers := func(id int) []api.Packet {
		return []api.Packet{ack(id, asks()...), nak(id), reject(id)}
	}
	for _, first := range answers(1) {
		for _, then := range answers(1) {
			what := fmt.Sprintf("P13.4: code %d behind code %d", then.Code, first.Code)
			n, _ := in(t, api.ReqSent, 5, 5)
			n.Input(first)
			wantDropped(t, what, n, 0)
			wantDrop(t, what, n, then)
		}
	}
	for _, p := range answers(1) {
		n, _ := in(t, api.Closed, 5, 5)
		wantDrop(t, "P13.4: ahead of any request", n, p)
		wantDrop(t, "P13.4: ahead of any request", n, plain(p.Code, 0, p.Data...))
		wantDrop(t, "P13.4: ahead of any request", n, plain(p.Code, 0))

		n, _ = in(t, api.ReqSent, 5, 1)
		n.Tick()
		wantDrop(t, "P13.4: an answer to an older request", n, p)
		p.Id = 2
		n.Input(p)
		wantDropped(t, "P13.4: an answer to the newer request", n, 1)
	}
	// An answer that leads to no action is one, too.
	for _, p := range answers(1) {
		for _, state := range []int{api.Stopping, api.Closing} {
			n, _ := in(t, state, 5, 5)
			wantInput(t, "P13.4: an answer while it ends", n, p, nego.Out{}, state)
			wantDrop(t, "P13.4: the same answer again", n, p)
		}
	}
	// Modulo 256 the identifiers come again.
	n, _ := in(t, api.ReqSent, 1000, 1)
	for range 256 {
		n.Tick()
	}
	wantInput(t, "P13.4: the identifier 1 again", n, ack(1, asks()...), nego.Out{}, api.AckRcvd)
	wantDrop(t, "P13.4: and twice", n, ack(1, asks()...))
}

// P13.4: the last request is the one that counts, though the line went down and up.
func TestAnswerFromAhead(t *testing.T) {
	n, _ := in(t, api.ReqSent, 5, 5)
	n.Do(api.Down)
	wantDrop(t, "P13.4: an answer in Starting", n, ack(1, asks()...))
	n.Do(api.Close)
	n.Do(api.Up)
	wantInput(t, "P13.4: the answer in Closed", n, ack(1, asks()...), sends(plain(api.TermAck, 2)), api.Closed)
	wantDrop(t, "P13.4: the answer again", n, ack(1, asks()...))
	n.Do(api.Open)
	wantDrop(t, "P13.4: the older answer", n, ack(1, asks()...))
	wantInput(t, "P13.4: the answer to the newer request", n, ack(3, asks()...), nego.Out{}, api.AckRcvd)
}

// P13.4: what was asked is what an answer is held against, also where the next
// request is another one by then.
func TestAnswerBehindUp(t *testing.T) {
	n, _ := in(t, api.ReqSent, 5, 5)
	n.Ask(list(opt(5, 7)))
	n.Do(api.Up)
	wantDrop(t, "P13.4: an Ack of what was not asked yet", n, ack(1, opt(5, 7)))
	wantDrop(t, "P13.4: a Reject of what was not asked yet", n, reject(1, opt(5, 7)))
	n.Input(request(9, good()...))
	wantOut(t, "P13.4: an Ack of what was asked", n.Input(ack(1, asks()...)), nego.Out{Up: true})
	wantAgreed(t, "P13.4", n, asks(), good())
}

// P13.4: the event of each code, in Opened.
func TestCodes(t *testing.T) {
	again := sends(request(2, asks()...))
	again.Down = true
	for code := -3; code <= 300; code++ {
		n, _ := in(t, api.Opened, 5, 5)
		p := plain(code, 1, 1, 2)
		what := fmt.Sprintf("P13.4: code %d", code)
		switch code {
		case api.ConfReq:
			out := nego.Out{Send: append(slices.Clone(again.Send), nak(1, opt(1, 5, 0xdc))), Down: true}
			wantInput(t, what, n, p, out, api.ReqSent)
		case api.ConfAck, api.ConfNak, api.ConfRej:
			wantDrop(t, what, n, p)
		case api.TermReq:
			wantInput(t, what, n, p, nego.Out{Send: sends(plain(api.TermAck, 1)).Send, Down: true}, api.Stopping)
		case api.TermAck:
			wantInput(t, what, n, p, again, api.ReqSent)
		case api.CodeRej:
			wantInput(t, what, n, p, nego.Out{Send: sends(plain(api.TermReq, 2)).Send, Down: true}, api.Stopping)
		default:
			var back []byte
			if code >= 0 && code <= 255 {
				back = []byte{byte(code), 1, 0, 6, 1, 2}
			}
			wantInput(t, what, n, p, sends(plain(api.CodeRej, 2, back...)), api.Opened)
		}
	}
	for _, code := range []int{math.MinInt, math.MaxInt, 1 << 32, 1<<32 + 1, 1<<8 + 1, 1<<16 + 5} {
		n, _ := in(t, api.Opened, 5, 5)
		wantInput(t, fmt.Sprintf("P13.4: code %d", code), n, plain(code, 1), sends(plain(api.CodeRej, 2)), api.Opened)
	}
}

// P13.4: codes that are unknown, in each state that drops nothing.
func TestUnknownCodes(t *testing.T) {
	for state := api.Closed; state <= api.Opened; state++ {
		for _, code := range []int{0, 8, 9, 10, 11, 12, 13, 14, 15, 16, 255} {
			n, id := in(t, state, 5, 5)
			what := fmt.Sprintf("P13.4: code %d in state %d", code, state)
			wantInput(t, what, n, plain(code, 3), sends(plain(api.CodeRej, id+1, byte(code), 3, 0, 4)), state)
		}
	}
}

// P13.4: a Code-Reject of each code, with and without more data, in each state.
func TestCodeRejects(t *testing.T) {
	for code := range 256 {
		for _, more := range [][]byte{nil, {7}, {0, 0, 4}} {
			for state := api.Closed; state <= api.Opened; state++ {
				n, id := in(t, state, 5, 5)
				p := plain(api.CodeRej, 250, append([]byte{byte(code)}, more...)...)
				what := fmt.Sprintf("P13.4: a Code-Reject of %X in state %d", p.Data, state)
				want, next := nego.Out{}, state
				switch {
				case code >= 1 && code <= 7 && state == api.Opened:
					want, next = nego.Out{Send: sends(plain(api.TermReq, id+1)).Send, Down: true}, api.Stopping
				case code >= 1 && code <= 7:
					want.Done = true
					next = api.Stopped
					if state == api.Closed || state == api.Closing {
						next = api.Closed
					}
				case state == api.AckRcvd:
					next = api.ReqSent
				}
				wantInput(t, what, n, p, want, next)
			}
		}
	}
}

// P13.4: so many Configure-Naks as there are tries, and no more.
func TestNaks(t *testing.T) {
	needs := append(rules(), nego.Rule{Type: 8, How: nego.Exact, Want: []byte{6}, Need: true})
	lacks, wrong := good(), list(opt(1, 7, 0xd0), opt(8, 6))
	offered := list(opt(8, 6))
	for _, tries := range []int{1, 2, 3, 10} {
		n := newNego(t, needs, nil, tries, 1000)
		n.Do(api.Open)
		n.Do(api.Up)
		for round := range 3 {
			for k := range tries {
				what := fmt.Sprintf("P13.4: tries %d, round %d, Nak %d", tries, round, k+1)
				wantInput(t, what+", between them a Reject", n, request(k, opt(99)), sends(reject(k, opt(99))), api.ReqSent)
				if k%2 == 0 {
					wantInput(t, what, n, request(k, lacks...), sends(nak(k, offered...)), api.ReqSent)
				} else {
					wantInput(t, what, n, request(k, wrong...), sends(nak(k, opt(1, 5, 0xdc))), api.ReqSent)
				}
			}
			what := fmt.Sprintf("P13.4: tries %d, round %d, behind the Naks", tries, round)
			for range 3 {
				wantInput(t, what, n, request(66, wrong...), sends(reject(66, wrong[0])), api.ReqSent)
				wantInput(t, what+", a needed option is missing", n, request(67, lacks...), sends(ack(67, lacks...)), api.AckSent)
			}
			n.Do(api.Down)
			n.Do(api.Up)
		}
	}
}

// P13.4: a Configure-Nak counts only where it is sent.
func TestNaksThatAreNotSent(t *testing.T) {
	n, _ := in(t, api.Closed, 1, 5)
	for id := range 5 {
		wantInput(t, "P13.4: no Nak in Closed", n, request(0, bad()...), sends(plain(api.TermAck, id+1)), api.Closed)
	}
	n.Do(api.Open)
	wantInput(t, "P13.4: the first Nak", n, request(0, bad()...), sends(nak(0, opt(1, 5, 0xdc))), api.ReqSent)
	wantInput(t, "P13.4: behind it", n, request(0, bad()...), sends(reject(0, bad()...)), api.ReqSent)
	for _, state := range []int{api.Closing, api.Stopping} {
		n, id := in(t, state, 1, 5)
		for range 5 {
			wantInput(t, "P13.4: no Nak while it ends", n, request(0, bad()...), nego.Out{}, state)
		}
		n.Do(api.Open)
		n.Input(plain(api.TermAck, 0))
		wantInput(t, "P13.4: the first Nak", n, request(0, bad()...), sends(request(id+1, asks()...), nak(0, opt(1, 5, 0xdc))), api.ReqSent)
		wantInput(t, "P13.4: behind it", n, request(0, bad()...), sends(reject(0, bad()...)), api.ReqSent)
	}
}

// P13.4: Naks and Rejects change the request that is sent next, by the rules.
func TestRequestChanges(t *testing.T) {
	l := append(rules(), nego.Rule{Type: 8, How: nego.Exact, Want: []byte{6}, Need: true}, nego.Rule{Type: 9, How: nego.Bits, Len: 1, Hi: 7})
	ask := list(opt(1, 5, 0xdc), opt(5, 1, 2, 3, 4), opt(8, 6), opt(9, 7), opt(10))
	n := newNego(t, l, ask, 10, 5)
	n.Do(api.Open)
	n.Do(api.Up)
	wantInput(t, "P13.4: a Nak", n, nak(1, opt(1, 255, 255), opt(9, 0xf1), opt(8, 5), opt(10, 1)),
		sends(request(2, opt(1, 5, 0xdc), opt(5, 1, 2, 3, 4), opt(8, 6), opt(9, 1), opt(10))), api.ReqSent)
	wantInput(t, "P13.4: another Nak", n, nak(2, opt(1, 0, 1), opt(5, 9)),
		sends(request(3, opt(1, 0, 64), opt(5, 9), opt(8, 6), opt(9, 1), opt(10))), api.ReqSent)
	wantInput(t, "P13.4: a Reject", n, reject(3, opt(10), opt(5, 9), opt(8, 6)),
		sends(request(4, opt(1, 0, 64), opt(8, 6), opt(9, 1))), api.ReqSent)
	wantDrop(t, "P13.4: a Reject of what was taken out", n, reject(4, opt(10)))
	wantDrop(t, "P13.4: an Ack of what was asked at first", n, ack(4, ask...))
	n.Input(request(1, opt(8, 6)))
	wantInput(t, "P13.4: another Reject", n, reject(4, opt(1, 0, 64)), sends(request(5, opt(8, 6), opt(9, 1))), api.AckSent)
	wantOut(t, "P13.4: LayerUp", n.Input(ack(5, opt(8, 6), opt(9, 1))), nego.Out{Up: true})
	wantAgreed(t, "P13.4: Mine is what was asked last", n, list(opt(8, 6), opt(9, 1)), list(opt(8, 6)))
	wantInput(t, "P13.4: the same is asked for again", n, plain(api.TermAck, 1), nego.Out{Send: sends(request(6, opt(8, 6), opt(9, 1))).Send, Down: true}, api.ReqSent)
}

// P13.4: Mine and Given in each state, and as they change.
func TestMineAndGiven(t *testing.T) {
	for state := range paths() {
		n, _ := in(t, state, 5, 5)
		if state != api.Opened {
			wantAgreed(t, fmt.Sprintf("P13.4: state %d", state), n, nil, nil)
			continue
		}
		wantAgreed(t, "P13.4: Opened", n, asks(), good())
		for _, leave := range []func(){
			func() { n.Do(api.Down) }, func() { n.Do(api.Close) },
			func() { n.Input(plain(api.TermReq, 1)) }, func() { n.Input(plain(api.TermAck, 1)) },
			func() { n.Input(plain(api.CodeRej, 1, 1)) }, func() { n.Input(request(1)) }, func() { n.Input(request(1, bad()...)) },
		} {
			n, _ = in(t, state, 5, 5)
			leave()
			wantAgreed(t, "P13.4: behind Opened", n, nil, nil)
		}
	}
	n, id := in(t, api.Opened, 5, 5)
	n.Input(request(1, opt(5, 4, 3, 2, 1)))
	wantAgreed(t, "P13.4: AckSent", n, nil, nil)
	n.Input(ack(id+1, asks()...))
	wantAgreed(t, "P13.4: the newer options of the peer", n, asks(), list(opt(5, 4, 3, 2, 1)))
	n.Input(plain(api.TermAck, 1))
	n.Input(nak(id+2, opt(1, 1, 1)))
	n.Input(request(2, good()...))
	n.Input(request(3, bad()...))
	n.Input(request(4))
	wantAgreed(t, "P13.4: AckSent", n, nil, nil)
	n.Input(ack(id+3, opt(1, 1, 1), asks()[1]))
	wantAgreed(t, "P13.4: both are new", n, list(opt(1, 1, 1), asks()[1]), nil)
	for range 3 {
		n.Input(plain(44, 1))
		n.Input(ack(id+3, opt(1, 1, 1), asks()[1]))
		n.Input(plain(api.ConfReq, 1, 1))
		n.Do(api.Up)
		n.Ask(nil)
		wantAgreed(t, "P13.4: what changes nothing", n, list(opt(1, 1, 1), asks()[1]), nil)
	}
}

// P13.4: Tick performs what its machine asks for, until the tries are used up.
func TestTick(t *testing.T) {
	n := newNego(t, rules(), asks(), 3, 4)
	ticks := func(what string, k int) {
		t.Helper()
		for range k {
			wantOut(t, what, n.Tick(), nego.Out{})
		}
	}
	ticks("P13.4: no timer", 9)
	n.Do(api.Open)
	ticks("P13.4: no timer", 9)
	n.Do(api.Up)
	for id := 2; id <= 3; id++ {
		ticks("P13.4: the timer runs", 3)
		wantOut(t, "P13.4: the timer expires", n.Tick(), sends(request(id, asks()...)))
	}
	ticks("P13.4: the timer runs for the last time", 3)
	wantOut(t, "P13.4: the timer expires for the last time", n.Tick(), nego.Out{Done: true})
	wantState(t, "P13.4", n, api.Stopped)
	ticks("P13.4: no timer", 9)
	n.Input(request(1, good()...))
	n.Input(ack(4, asks()...))
	wantState(t, "P13.4", n, api.Opened)
	ticks("P13.4: no timer", 9)
	n.Do(api.Close)
	for id := 6; id <= 7; id++ {
		ticks("P13.4: the timer runs", 3)
		wantOut(t, "P13.4: the timer expires", n.Tick(), sends(plain(api.TermReq, id)))
	}
	ticks("P13.4: the timer runs for the last time", 3)
	wantOut(t, "P13.4: the timer expires for the last time", n.Tick(), nego.Out{Done: true})
	wantState(t, "P13.4", n, api.Closed)
}

// P13.3: an answer whose options have no encoding has no data; nothing else is
// wrong with it.
func TestAnswerWithoutEncoding(t *testing.T) {
	many := make([]nego.Rule, 40)
	for i := range many {
		many[i] = nego.Rule{Type: i, How: nego.Exact, Need: true}
	}
	for _, l := range [][]nego.Rule{
		{{Type: 1, How: nego.Exact, Want: make([]byte, 254), Need: true}},
		{{Type: 256, How: nego.Exact, Need: true}},
		{{Type: -1, How: nego.Exact, Need: true}},
		many,
	} {
		n := newNego(t, l, nil, 2, 5)
		n.Do(api.Open)
		n.Do(api.Up)
		wantInput(t, "P13.3: a Nak without encoding", n, request(3), sends(nak(3)), api.ReqSent)
		wantInput(t, "P13.3: the second one", n, request(3), sends(nak(3)), api.ReqSent)
		wantInput(t, "P13.3: behind it", n, request(3), sends(ack(3)), api.AckSent)
	}
}
