package nego_test

import (
	"fmt"
	"testing"

	"fairlead/api"
	"fairlead/nego"
)

// What a layer above asks of a negotiator, beside the promises.

func TestJudgeBy(t *testing.T) {
	for _, x := range []struct {
		answer api.Packet
		event  string
		next   int
	}{
		{ack(7, opt(9)), "ReqGood", api.AckSent}, {nak(7, opt(9, 1)), "ReqBad", api.ReqSent}, {reject(7), "ReqBad", api.ReqSent},
	} {
		n, _ := in(t, api.ReqSent, 2, 5)
		var asked []api.Option
		var told []bool
		n.JudgeBy(func(l []api.Option, rejects bool) (int, []api.Option) {
			asked, told = l, append(told, rejects)
			if x.answer.Code == api.ConfRej {
				return api.ConfRej, nil
			}
			return x.answer.Code, list(opt(9, x.answer.Data[2:]...))
		})
		for range 3 {
			wantInput(t, "JudgeBy: "+x.event, n, request(7, good()...), sends(x.answer), x.next)
			wantOptions(t, "JudgeBy: what is judged", asked, good())
		}
		want := []bool{false, false, x.answer.Code == api.ConfNak}
		if fmt.Sprint(told) != fmt.Sprint(want) {
			t.Errorf("JudgeBy: %s: rejects %v, want %v", x.event, told, want)
		}
		wantDrop(t, "JudgeBy: what does not split", n, plain(api.ConfReq, 7, 1))
		n.JudgeBy(nil)
		wantInput(t, "JudgeBy nobody else", n, request(7, good()...), sends(x.answer), x.next)
	}
	n, _ := in(t, api.ReqSent, 2, 5)
	n.JudgeBy(nil)
	wantInput(t, "JudgeBy nobody", n, request(7, bad()...), sends(nak(7, opt(1, 5, 0xdc))), api.ReqSent)
}

func TestAsked(t *testing.T) {
	for state := range paths() {
		n, id := in(t, state, 5, 5)
		want := asks()
		if id == 0 {
			want = nil
		}
		for range 2 {
			got := n.Asked()
			wantOptions(t, fmt.Sprintf("Asked in state %d", state), got, want)
			scribbleOptions(got)
		}
	}
	n, _ := in(t, api.ReqSent, 5, 1)
	n.Ask(good())
	n.Do(api.Up)
	wantOptions(t, "Asked behind an Up without action", n.Asked(), asks())
	n.Tick()
	wantOptions(t, "Asked behind the next request", n.Asked(), good())
	n.Input(nak(2, opt(1, 0, 99)))
	wantOptions(t, "Asked behind a Nak", n.Asked(), list(opt(1, 0, 99)))
	n.Do(api.Down)
	wantOptions(t, "Asked behind Down", n.Asked(), list(opt(1, 0, 99)))
}

func TestOwn(t *testing.T) {
	for state := range paths() {
		n, id := in(t, state, 5, 5)
		what := fmt.Sprintf("Own in state %d", state)
		for range 300 {
			id++
			data := roomy([]byte{1, 2, 3})
			got := n.Own(77, data)
			scribble(data)
			wantOut(t, what, sends(got), sends(plain(77, id%256, 1, 2, 3)))
		}
		wantState(t, what, n, state)
		if state > api.Starting {
			wantOut(t, what+", and behind it", n.Input(plain(50, 1)), sends(plain(api.CodeRej, (id+1)%256, 50, 1, 0, 4)))
		}
	}
}

func TestDrop(t *testing.T) {
	for state := range paths() {
		n, _ := in(t, state, 5, 5)
		for k := range 3 {
			n.Drop()
			wantDropped(t, fmt.Sprintf("Drop in state %d", state), n, k+1)
			wantState(t, "Drop", n, state)
		}
		wantDrop(t, "a packet behind Drop", n, plain(api.CodeRej, 1))
	}
}

func TestAboveOfUnmade(t *testing.T) {
	for _, n := range []*nego.Nego{nil, new(nego.Nego)} {
		n.JudgeBy(func([]api.Option, bool) (int, []api.Option) { return api.ConfAck, nil })
		n.Drop()
		wantDropped(t, "R7", n, 0)
		wantOptions(t, "R7: Asked", n.Asked(), nil)
		wantOut(t, "R7: Own", sends(n.Own(5, []byte{1})), sends(api.Packet{}))
		wantOut(t, "R7: Input", n.Input(request(1)), nego.Out{})
	}
}
