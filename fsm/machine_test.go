package fsm_test

import (
	"fmt"
	"math"
	"slices"
	"testing"

	"fairlead/api"
	"fairlead/fsm"
)

func newMachine(t *testing.T, tries, timeout int) *fsm.Machine {
	t.Helper()
	m, err := fsm.New(tries, timeout)
	if err != api.OK || m == nil {
		t.Fatalf("New(%d, %d): %v, %d", tries, timeout, m, err)
	}
	return m
}

// call is Tick for tick, and otherwise Do.
func call(m *fsm.Machine, event int) []int {
	if event == tick {
		return m.Tick()
	}
	return m.Do(event)
}

// after is a machine on which these calls were made.
func after(t *testing.T, tries, timeout int, calls ...int) *fsm.Machine {
	t.Helper()
	m := newMachine(t, tries, timeout)
	for _, event := range calls {
		call(m, event)
	}
	return m
}

// view is what can be seen of a machine.
type view struct {
	state, count int
	running      bool
}

func look(m *fsm.Machine) view { return view{m.State(), m.Count(), m.Running()} }

func wantView(t *testing.T, what string, m *fsm.Machine, want view) {
	t.Helper()
	if got := look(m); got != want {
		t.Errorf("%s: %v, want %v", what, got, want)
	}
}

// wantCall makes a call and wants its actions, and what can be seen behind it.
func wantCall(t *testing.T, what string, m *fsm.Machine, event int, actions []int, want view) {
	t.Helper()
	if got := call(m, event); !slices.Equal(got, actions) {
		t.Errorf("%s: %s, want %s", what, told(got), told(actions))
	}
	wantView(t, what, m, want)
}

// wantTicks wants n ticks that lead to nothing.
func wantTicks(t *testing.T, what string, m *fsm.Machine, n int) {
	t.Helper()
	want := look(m)
	for i := range n {
		wantCall(t, fmt.Sprintf("%s: tick %d", what, i+1), m, tick, nil, want)
	}
}

// The calls that lead a new machine to each state, without a tick.
func paths() [states][]int {
	return [states][]int{
		api.Initial:  {},
		api.Starting: {api.Open},
		api.Closed:   {api.Up},
		api.Stopped:  {api.Up, api.Open, api.RejBad},
		api.Closing:  {api.Up, api.Open, api.Close},
		api.Stopping: {api.Up, api.Open, api.Close, api.Open},
		api.ReqSent:  {api.Up, api.Open},
		api.AckRcvd:  {api.Up, api.Open, api.AckIn},
		api.AckSent:  {api.Up, api.Open, api.ReqGood},
		api.Opened:   {api.Up, api.Open, api.ReqGood, api.AckIn},
	}
}

// P12.2 and P12.3: the chapter's example.
func TestExampleOfTheChapter(t *testing.T) {
	m := newMachine(t, 2, 3)
	wantCall(t, "P12.2: Do(Up)", m, api.Up, nil, view{api.Closed, 0, false})
	wantCall(t, "P12.2: Do(Open)", m, api.Open, []int{api.InitCount, api.SendReq}, view{api.ReqSent, 1, true})
	wantTicks(t, "P12.3: the first timeout", m, 2)
	wantCall(t, "P12.3: the third tick", m, tick, []int{api.SendReq}, view{api.ReqSent, 0, true})
	wantTicks(t, "P12.3: the second timeout", m, 2)
	wantCall(t, "P12.3: the sixth tick", m, tick, []int{api.LayerDone}, view{api.Stopped, 0, false})
	wantTicks(t, "P12.3: behind the last timeout", m, 3)
}

// P12.2: tries and timeout at, within and beyond both ends, each with any of the other.
func TestNew(t *testing.T) {
	right := []int{1, 2, 3, 7, 255, 256, 500, 998, 999, 1000}
	wrong := []int{
		math.MinInt, math.MinInt + 1, -1 << 32, -1<<32 + 1, -1001, -1000, -256, -2, -1, 0,
		1001, 1002, 2000, 1 << 16, 1<<16 + 1, 1 << 32, 1<<32 + 1, math.MaxInt,
	}
	both := slices.Concat(right, wrong)
	for _, tries := range both {
		for _, timeout := range both {
			what := fmt.Sprintf("P12.2: New(%d, %d)", tries, timeout)
			m, err := fsm.New(tries, timeout)
			if slices.Contains(right, tries) && slices.Contains(right, timeout) {
				if m == nil || err != api.OK {
					t.Fatalf("%s: %v, %d", what, m, err)
				}
				wantView(t, what, m, view{api.Initial, 0, false})
				wantTicks(t, what, m, 3)
			} else if m != nil || err != api.ErrArg {
				t.Errorf("%s: %v, %d, want nothing and %d", what, m, err, api.ErrArg)
			}
		}
	}
}

// P12.2 and P12.3: for all tries the counter, and for all timeouts the timer.
func TestEachTriesAndTimeout(t *testing.T) {
	for n := 1; n <= 1000; n++ {
		what := fmt.Sprintf("P12.2: tries %d", n)
		m := after(t, n, 1, api.Up, api.Open)
		for left := n - 1; left > 0; left-- {
			wantCall(t, what, m, api.EchoIn, nil, view{api.ReqSent, left, true})
			wantCall(t, what, m, tick, []int{api.SendReq}, view{api.ReqSent, left - 1, true})
		}
		wantCall(t, what, m, tick, []int{api.LayerDone}, view{api.Stopped, 0, false})

		what = fmt.Sprintf("P12.3: timeout %d", n)
		m = after(t, 2, n, api.Up, api.Open)
		wantTicks(t, what, m, n-1)
		wantCall(t, what, m, tick, []int{api.SendReq}, view{api.ReqSent, 0, true})
		wantTicks(t, what, m, n-1)
		wantCall(t, what, m, tick, []int{api.LayerDone}, view{api.Stopped, 0, false})
		wantTicks(t, what, m, 2)
	}
}

// P12.2: what each action does to the counter and the timer, the counter above 0
// and, where a machine comes to that, at 0.
func TestEffects(t *testing.T) {
	const irc, zrc, scr, str = api.InitCount, api.ZeroCount, api.SendReq, api.SendTermReq
	sent := []int{api.Up, api.Open, tick, tick, tick, tick, tick, tick} // the counter of 3 is at 0 behind it
	for _, c := range []struct {
		what    string
		calls   []int
		event   int
		actions []int
		want    view
		left    int // ticks behind it until the timer expires
	}{
		{"InitCount and SendReq at 0", []int{api.Up}, api.Open, []int{irc, scr}, view{api.ReqSent, 2, true}, 3},
		{"InitCount and SendReq at 0, later", append(sent, tick), api.NakIn, []int{irc, scr}, view{api.ReqSent, 2, true}, 3},
		{"InitCount and SendReq above 0", []int{api.Up, api.Open, tick}, api.NakIn, []int{irc, scr}, view{api.ReqSent, 2, true}, 3},
		{"InitCount alone at 0", append(sent, tick), api.AckIn, []int{irc}, view{api.AckRcvd, 3, true}, 2},
		{"InitCount alone above 0", []int{api.Up, api.Open, tick, tick}, api.AckIn, []int{irc}, view{api.AckRcvd, 3, true}, 1},
		{"InitCount and SendTermReq at 0", sent, api.Close, []int{irc, str}, view{api.Closing, 2, true}, 3},
		{"InitCount and SendTermReq above 0", []int{api.Up, api.Open, tick}, api.Close, []int{irc, str}, view{api.Closing, 2, true}, 3},
		{"ZeroCount above 0", paths()[api.Opened], api.TermReqIn, []int{api.LayerDown, zrc, api.SendTermAck}, view{api.Stopping, 0, true}, 3},
		{"SendReq above 0", append(paths()[api.AckRcvd], tick), api.NakIn, []int{scr}, view{api.ReqSent, 2, true}, 3},
		{"SendReq of Opened", paths()[api.Opened], api.AckIn, []int{api.LayerDown, scr}, view{api.ReqSent, 2, true}, 3},
		{"SendTermReq above 0", append(paths()[api.Closing], tick, tick), tick, []int{str}, view{api.Closing, 1, true}, 3},
		{"SendTermReq of Opened", paths()[api.Opened], api.RejBad, []int{api.LayerDown, irc, str}, view{api.Stopping, 2, true}, 3},
		{"SendAck", append(sent, tick), api.ReqGood, []int{api.SendAck}, view{api.AckSent, 0, true}, 2},
		{"SendNak", append(paths()[api.ReqSent], tick), api.ReqBad, []int{api.SendNak}, view{api.ReqSent, 2, true}, 2},
		{"SendTermAck", append(paths()[api.AckRcvd], tick), api.TermReqIn, []int{api.SendTermAck}, view{api.ReqSent, 3, true}, 2},
		{"SendCodeRej", append(paths()[api.Stopping], tick, tick), api.Unknown, []int{api.SendCodeRej}, view{api.Stopping, 2, true}, 1},
		{"no action", append(paths()[api.Closing], tick, tick), api.Open, nil, view{api.Stopping, 2, true}, 1},
	} {
		m := after(t, 3, 3, c.calls...)
		wantCall(t, "P12.2: "+c.what, m, c.event, c.actions, c.want)
		wantTicks(t, "P12.2: "+c.what, m, c.left-1)
		if more := m.Tick(); len(more) == 0 {
			t.Errorf("P12.2: %s: the timer didn't expire at tick %d", c.what, c.left)
		}
	}
}

// P12.2: TimeMore, TimeOut and numbers that are no events, in each state.
func TestDoOfNoEvent(t *testing.T) {
	for state, calls := range paths() {
		for _, event := range append(beyond(events), api.TimeMore, api.TimeOut) {
			for _, ticks := range []int{0, 1, 2} {
				m := after(t, 2, 3, calls...)
				before := look(m)
				if before.state != state {
					t.Fatalf("state %d, want %d", before.state, state)
				}
				for range ticks {
					m.Tick()
				}
				what := fmt.Sprintf("P12.2: Do(%d) in state %d behind %d ticks", event, state, ticks)
				wantCall(t, what, m, event, nil, before)
				if !before.running {
					wantTicks(t, what, m, 10)
					continue
				}
				wantTicks(t, what, m, 2-ticks)
				if len(m.Tick()) == 0 {
					t.Errorf("%s: the timer didn't expire in time", what)
				}
			}
		}
	}
}

// P12.3: ticks while the timer doesn't run: in each state without one.
func TestTickWithoutTimer(t *testing.T) {
	timed := []int{api.Closing, api.Stopping, api.ReqSent, api.AckRcvd, api.AckSent}
	for state, calls := range paths() {
		m := after(t, 2, 1, calls...)
		what := fmt.Sprintf("P12.3: state %d", state)
		if m.State() != state || m.Running() != slices.Contains(timed, state) {
			t.Errorf("%s: %v", what, look(m))
		}
		if !m.Running() {
			wantTicks(t, what, m, 100)
		}
	}
}

// P12.3: the tick at which the timer expires, with the counter above 0 and at 0,
// and the ticks around it, in each state with a timer.
func TestTickAtTimeout(t *testing.T) {
	for _, c := range []struct {
		calls []int
		more  entry // with the counter above 0
		last  int   // the state that it stops in
	}{
		{paths()[api.Closing], entry{[]int{api.SendTermReq}, api.Closing}, api.Closed},
		{paths()[api.Stopping], entry{[]int{api.SendTermReq}, api.Stopping}, api.Stopped},
		{paths()[api.ReqSent], entry{[]int{api.SendReq}, api.ReqSent}, api.Stopped},
		{paths()[api.AckRcvd], entry{[]int{api.SendReq}, api.ReqSent}, api.Stopped},
		{paths()[api.AckSent], entry{[]int{api.SendReq}, api.AckSent}, api.Stopped},
	} {
		m := after(t, 3, 4, c.calls...)
		what := fmt.Sprintf("P12.3: state %d", m.State())
		for left := m.Count(); left > 0; left-- {
			wantTicks(t, what, m, 3)
			wantCall(t, what, m, tick, c.more.actions, view{c.more.next, left - 1, true})
		}
		wantTicks(t, what, m, 3)
		wantCall(t, what, m, tick, []int{api.LayerDone}, view{c.last, 0, false})
		wantTicks(t, what, m, 20)
	}
}

// P12.2 and P12.3: the timer is started again while it runs, and then expires
// after as many ticks as ever.
func TestTimerThatIsStartedAgain(t *testing.T) {
	for ticks := range 5 {
		m := after(t, 2, 5, api.Up, api.Open)
		what := fmt.Sprintf("P12.2: started again behind %d ticks", ticks)
		for range 6 {
			wantTicks(t, what, m, ticks)
			wantCall(t, what, m, api.NakIn, []int{api.InitCount, api.SendReq}, view{api.ReqSent, 1, true})
		}
		wantTicks(t, what, m, 4)
		wantCall(t, what, m, tick, []int{api.SendReq}, view{api.ReqSent, 0, true})
	}
}

// P12.2: a timer that runs stops with a next state that has none; one that is
// started then runs in full.
func TestTimerThatStops(t *testing.T) {
	for _, c := range []struct {
		from, event, to int
	}{
		{api.ReqSent, api.Down, api.Starting},
		{api.AckRcvd, api.Down, api.Starting},
		{api.AckSent, api.Down, api.Starting},
		{api.Stopping, api.Down, api.Starting},
		{api.Closing, api.Down, api.Initial},
		{api.Closing, api.TermAckIn, api.Closed},
		{api.Closing, api.RejBad, api.Closed},
		{api.Stopping, api.TermAckIn, api.Stopped},
		{api.Stopping, api.RejBad, api.Stopped},
		{api.ReqSent, api.RejBad, api.Stopped},
		{api.AckRcvd, api.RejBad, api.Stopped},
		{api.AckSent, api.RejBad, api.Stopped},
		{api.AckRcvd, api.ReqGood, api.Opened},
		{api.AckSent, api.AckIn, api.Opened},
	} {
		for ticks := range 3 {
			m := after(t, 2, 3, paths()[c.from]...)
			what := fmt.Sprintf("P12.2: event %d in state %d behind %d ticks", c.event, c.from, ticks)
			wantTicks(t, what, m, ticks)
			m.Do(c.event)
			if m.State() != c.to || m.Running() {
				t.Errorf("%s: %v, want state %d without a timer", what, look(m), c.to)
			}
			wantTicks(t, what, m, 20)
			for _, event := range []int{api.Down, api.Close, api.Up, api.Open} {
				m.Do(event)
			}
			wantView(t, what+", and begun anew", m, view{api.ReqSent, 1, true})
			wantTicks(t, what+", and begun anew", m, 2)
			wantCall(t, what+", and begun anew", m, tick, []int{api.SendReq}, view{api.ReqSent, 0, true})
		}
	}
}

// P12.4: the longest that a timer runs by itself, with tries and timeout at their ends.
func TestTimerStopsForGood(t *testing.T) {
	for _, tries := range []int{1, 2, 999, 1000} {
		for _, timeout := range []int{1, 2, 999, 1000} {
			m := after(t, tries, timeout, paths()[api.AckRcvd]...)
			last := 0
			for n := range (tries + 4) * timeout {
				m.Tick()
				if m.Running() {
					last = n + 1
				}
			}
			if last >= (tries+2)*timeout || last+1 != (tries+1)*timeout {
				t.Errorf("P12.4: tries %d, timeout %d: the timer ran behind tick %d", tries, timeout, last)
			}
			wantView(t, "P12.4", m, view{api.Stopped, 0, false})
		}
	}
}

// P12.2 and P12.3 with R7: a machine that New did not make.
func TestMachineThatNewDidNotMake(t *testing.T) {
	for name, m := range map[string]*fsm.Machine{"nil": nil, "zero": {}, "new": new(fsm.Machine)} {
		for range 2 {
			for _, event := range append(upTo(events), tick, api.Up, api.Open, tick) {
				wantCall(t, "R7: "+name, m, event, nil, view{})
			}
		}
	}
}
