package fsm_test

import (
	"fmt"
	"math/rand/v2"
	"slices"
	"testing"

	"fairlead/api"
	"fairlead/fsm"
)

// tick stands for a call of Tick in a list of events; no event has its number.
const tick = -1000

// model is a machine as P12.2 and P12.3 tell of it, word by word. It counts the
// ticks of its timer upwards.
type model struct {
	all            *table
	tries, timeout int
	state, count   int
	running        bool
	passed         int // ticks since the timer was started
}

func (m *model) call(event int) []int {
	switch event {
	case tick:
		return m.tick()
	case api.TimeMore, api.TimeOut:
		return nil
	}
	return m.step(event)
}

func (m *model) tick() []int {
	if !m.running {
		return nil
	}
	m.passed++
	if m.passed < m.timeout {
		return nil
	}
	m.running = false
	if m.count > 0 {
		return m.step(api.TimeMore)
	}
	return m.step(api.TimeOut)
}

func (m *model) step(event int) []int {
	e := m.all.of(m.state, event)
	m.state = e.next
	for _, action := range e.actions {
		switch action {
		case api.InitCount:
			m.count = m.tries
		case api.ZeroCount:
			m.count = 0
			m.running, m.passed = true, 0
		case api.SendReq, api.SendTermReq:
			if m.count > 0 {
				m.count--
			}
			m.running, m.passed = true, 0
		}
	}
	switch m.state {
	case api.Closing, api.Stopping, api.ReqSent, api.AckRcvd, api.AckSent:
	default:
		m.running, m.passed = false, 0
	}
	return e.actions
}

// pair is a machine and its model, on which the same calls are made.
type pair struct {
	*fsm.Machine
	model model
	done  []int
}

func newPair(t *testing.T, all *table, tries, timeout int) *pair {
	t.Helper()
	return &pair{Machine: newMachine(t, tries, timeout), model: model{all: all, tries: tries, timeout: timeout}}
}

// last are the calls that were made, as far as they are of use in a message.
func (p *pair) last() string {
	from := max(len(p.done)-40, 0)
	return fmt.Sprintf("tries %d, timeout %d, %d calls and %v", p.model.tries, p.model.timeout, from, p.done[from:])
}

// call makes one call on both and tells whether all that can be seen is alike. It
// is the machine's list of actions, too.
func (p *pair) call(t *testing.T, event int) ([]int, bool) {
	t.Helper()
	p.done = append(p.done, event)
	got, want := call(p.Machine, event), p.model.call(event)
	seen, asked := look(p.Machine), view{p.model.state, p.model.count, p.model.running}
	if !slices.Equal(got, want) || seen != asked {
		t.Errorf("P12.2, P12.3: after %s: %s %v, want %s %v", p.last(), told(got), seen, told(want), asked)
		return got, false
	}
	return got, true
}

// runOut ticks until the timer has stopped for good, which the words tell to the tick.
func (p *pair) runOut(t *testing.T) {
	t.Helper()
	want := 0
	if p.model.running {
		want = p.model.timeout - p.model.passed + p.model.count*p.model.timeout
	}
	most := (p.model.tries + 2) * p.model.timeout
	after := p.last()
	stopped := 0
	for n := 1; n <= most+2*p.model.timeout; n++ {
		p.Tick()
		if p.Running() {
			stopped = n
		}
	}
	if want > 0 {
		stopped++
	}
	if stopped != want || stopped > most {
		t.Errorf("P12.4: after %s: the timer stopped for good after %d ticks, want %d", after, stopped, want)
	}
}

// anyEvent draws a call that is worth making: those that lead on are more frequent.
func anyEvent(r *rand.Rand, ticks int) int {
	switch n := r.IntN(20 + ticks); {
	case n == 0:
		return []int{-1, api.Events, api.TimeMore, api.TimeOut}[r.IntN(4)]
	case n < 10:
		return []int{api.Up, api.Open, api.ReqGood, api.AckIn}[r.IntN(4)]
	case n < 20:
		return r.IntN(events)
	}
	return tick
}

// P12.2 to P12.4: long random sequences of calls, against the table and the words.
func TestAnyCalls(t *testing.T) {
	all := chapter(t)
	r := rand.New(rand.NewPCG(12, 1))
	var visited [events][states]bool
	for range 600 {
		tries, timeout, ticks := 1+r.IntN(4), 1+r.IntN(4), r.IntN(40)
		if r.IntN(10) == 0 {
			tries = 1 + r.IntN(1000)
		}
		p := newPair(t, all, tries, timeout)
		for range r.IntN(3000) {
			event, state := anyEvent(r, ticks), p.State()
			if _, alike := p.call(t, event); !alike {
				break
			}
			if event >= 0 && event < events {
				visited[event][state] = true
			}
		}
		p.runOut(t)
	}
	for event := range events {
		if i := slices.Index(visited[event][:], false); i >= 0 {
			t.Errorf("no call of event %d in state %d", event, i)
		}
	}
}

// P12.2 to P12.4: timeouts of many ticks, with calls in between.
func TestAnyCallsOfLongTimeouts(t *testing.T) {
	all := chapter(t)
	r := rand.New(rand.NewPCG(12, 2))
	for _, timeout := range []int{10, 255, 256, 257, 999, 1000} {
		for range 10 {
			p := newPair(t, all, 1+r.IntN(5), timeout)
			for range 20000 {
				if _, alike := p.call(t, anyEvent(r, 20*timeout)); !alike {
					break
				}
			}
			p.runOut(t)
		}
	}
}

// P12.2 to P12.4: every call in everything that a machine can be in, for small
// tries and timeouts; and from there, how long the timer runs.
func TestEachCallInEachCondition(t *testing.T) {
	all := chapter(t)
	for tries := 1; tries <= 4; tries++ {
		for timeout := 1; timeout <= 4; timeout++ {
			seen := eachCondition(t, all, tries, timeout)
			if seen != 1<<states-1 {
				t.Errorf("tries %d, timeout %d: the states %010b", tries, timeout, seen)
			}
		}
	}
}

// eachCondition makes the calls that lead to each condition again for each call
// in it. It is the states that there are, as bits.
func eachCondition(t *testing.T, all *table, tries, timeout int) int {
	t.Helper()
	again := func(calls []int) *pair {
		p := newPair(t, all, tries, timeout)
		for _, event := range calls {
			p.call(t, event)
		}
		return p
	}
	start := again(nil).model
	paths := map[model][]int{start: nil}
	work := []model{start}
	seen := 0
	for len(work) > 0 && !t.Failed() {
		path := paths[work[0]]
		seen |= 1 << work[0].state
		work = work[1:]
		again(path).runOut(t)
		for _, event := range append(upTo(events), tick) {
			p := again(path)
			p.call(t, event)
			if _, known := paths[p.model]; !known {
				paths[p.model] = p.done
				work = append(work, p.model)
			}
		}
	}
	return seen
}

// P12.2 and P12.3 with R4: lists that were handed out stay as they are, and may be changed.
func TestActionsAreTheCallers(t *testing.T) {
	all := chapter(t)
	for _, changed := range []bool{false, true} {
		r := rand.New(rand.NewPCG(12, 3))
		p := newPair(t, all, 3, 2)
		var lists [][]int
		var want []string
		for range 20000 {
			actions, alike := p.call(t, anyEvent(r, 10))
			if !alike {
				break
			}
			if changed {
				scribble(actions)
				continue
			}
			lists, want = append(lists, actions), append(want, told(actions))
		}
		for i, l := range lists {
			if told(l) != want[i] {
				t.Fatalf("P12.2: list %d became %s, and was %s", i, told(l), want[i])
			}
			scribble(l)
			if i+1 < len(lists) && told(lists[i+1]) != want[i+1] {
				t.Fatalf("P12.2: list %d changed with the one ahead of it", i+1)
			}
		}
	}
}

// P12.2 and P12.3 with R5: machines have nothing to do with each other.
func TestMachinesAreApart(t *testing.T) {
	all := chapter(t)
	r := rand.New(rand.NewPCG(12, 4))
	var l []*pair
	for i := range 20 {
		l = append(l, newPair(t, all, 1+i%5, 1+i%3))
	}
	for range 20000 {
		if _, alike := l[r.IntN(len(l))].call(t, anyEvent(r, 10)); !alike {
			return
		}
	}
	for _, p := range l {
		p.runOut(t)
	}
}
