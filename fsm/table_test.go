package fsm_test

import (
	"fmt"
	"math"
	"slices"
	"strconv"
	"strings"
	"testing"

	"fairlead/api"
	"fairlead/fsm"
)

// chapterTable is the table of P12.1, as it stands there.
const chapterTable = `
| event | Initial 0 | Starting 1 | Closed 2 | Stopped 3 | Closing 4 | Stopping 5 | ReqSent 6 | AckRcvd 7 | AckSent 8 | Opened 9 |
|---|---|---|---|---|---|---|---|---|---|---|
| Up | 2 | irc scr 6 | - | - | - | - | - | - | - | - |
| Down | - | - | 0 | tls 1 | 0 | 1 | 1 | 1 | 1 | tld 1 |
| Open | tls 1 | 1 | irc scr 6 | 3 | 5 | 5 | 6 | 7 | 8 | 9 |
| Close | 0 | tlf 0 | 2 | 2 | 4 | 4 | irc str 4 | irc str 4 | irc str 4 | tld irc str 4 |
| TimeMore | - | - | - | - | str 4 | str 5 | scr 6 | scr 6 | scr 8 | - |
| TimeOut | - | - | - | - | tlf 2 | tlf 3 | tlf 3 | tlf 3 | tlf 3 | - |
| ReqGood | - | - | sta 2 | irc scr sca 8 | 4 | 5 | sca 8 | sca tlu 9 | sca 8 | tld scr sca 8 |
| ReqBad | - | - | sta 2 | irc scr scn 6 | 4 | 5 | scn 6 | scn 7 | scn 6 | tld scr scn 6 |
| AckIn | - | - | sta 2 | sta 3 | 4 | 5 | irc 7 | scr 6 | irc tlu 9 | tld scr 6 |
| NakIn | - | - | sta 2 | sta 3 | 4 | 5 | irc scr 6 | scr 6 | irc scr 8 | tld scr 6 |
| TermReqIn | - | - | sta 2 | sta 3 | sta 4 | sta 5 | sta 6 | sta 6 | sta 6 | tld zrc sta 5 |
| TermAckIn | - | - | 2 | 3 | tlf 2 | tlf 3 | 6 | 6 | 8 | tld scr 6 |
| Unknown | - | - | scj 2 | scj 3 | scj 4 | scj 5 | scj 6 | scj 7 | scj 8 | scj 9 |
| RejGood | - | - | 2 | 3 | 4 | 5 | 6 | 6 | 8 | 9 |
| RejBad | - | - | tlf 2 | tlf 3 | tlf 2 | tlf 3 | tlf 3 | tlf 3 | tlf 3 | tld irc str 5 |
| EchoIn | - | - | 2 | 3 | 4 | 5 | 6 | 7 | 8 | ser 9 |
`

// The events and the states of the table, in its order.
const (
	events = 16
	states = 10
)

// abbreviations are those of P12.1, each at the number of its action.
func abbreviations() []string {
	l := make([]string, api.SendEcho+1)
	l[api.LayerUp], l[api.LayerDown], l[api.LayerStart], l[api.LayerDone] = "tlu", "tld", "tls", "tlf"
	l[api.InitCount], l[api.ZeroCount] = "irc", "zrc"
	l[api.SendReq], l[api.SendAck], l[api.SendNak] = "scr", "sca", "scn"
	l[api.SendTermReq], l[api.SendTermAck], l[api.SendCodeRej], l[api.SendEcho] = "str", "sta", "scj", "ser"
	return l
}

// numbersOfEvents are those of package api, by the names in the table.
func numbersOfEvents() map[string]int {
	return map[string]int{
		"Up": api.Up, "Down": api.Down, "Open": api.Open, "Close": api.Close,
		"TimeMore": api.TimeMore, "TimeOut": api.TimeOut,
		"ReqGood": api.ReqGood, "ReqBad": api.ReqBad, "AckIn": api.AckIn, "NakIn": api.NakIn,
		"TermReqIn": api.TermReqIn, "TermAckIn": api.TermAckIn, "Unknown": api.Unknown,
		"RejGood": api.RejGood, "RejBad": api.RejBad, "EchoIn": api.EchoIn,
	}
}

// entry is one of the table.
type entry struct {
	actions []int
	next    int
}

func (e entry) String() string { return fmt.Sprint(told(e.actions), e.next) }

func (e entry) is(actions []int, next int) bool {
	return e.next == next && slices.Equal(e.actions, actions)
}

// told is a list of actions as a text.
func told(actions []int) string {
	names := abbreviations()
	var l []string
	for _, a := range actions {
		if a < 0 || a >= len(names) {
			l = append(l, strconv.Itoa(a))
		} else {
			l = append(l, names[a])
		}
	}
	return "[" + strings.Join(l, " ") + "]"
}

// table is the chapter's table, by the numbers of event and state.
type table [events][states]entry

func chapter(t *testing.T) *table {
	t.Helper()
	var all table
	numbers := numbersOfEvents()
	lines := strings.Split(strings.Trim(chapterTable, "\n"), "\n")[2:]
	if len(lines) != events || len(numbers) != events || api.Events != events {
		t.Fatalf("%d rows, %d names, %d events", len(lines), len(numbers), api.Events)
	}
	for _, line := range lines {
		cells := strings.Split(strings.Trim(line, "| "), " | ")
		event, known := numbers[cells[0]]
		if !known || len(cells) != states+1 {
			t.Fatalf("the row %s has %d cells", cells[0], len(cells))
		}
		for state, cell := range cells[1:] {
			all[event][state] = parsed(t, cell, state)
		}
	}
	return &all
}

// parsed is the entry that a cell tells of.
func parsed(t *testing.T, cell string, state int) entry {
	t.Helper()
	if cell == "-" {
		return entry{next: state}
	}
	var e entry
	words := strings.Fields(cell)
	for _, w := range words[:len(words)-1] {
		a := slices.Index(abbreviations(), w)
		if a < 0 {
			t.Fatalf("the action %s", w)
		}
		e.actions = append(e.actions, a)
	}
	next, err := strconv.Atoi(words[len(words)-1])
	if err != nil {
		t.Fatal(err)
	}
	e.next = next
	return e
}

// of is what P12.1 asks of Step.
func (all *table) of(state, event int) entry {
	if state < 0 || state >= states || event < 0 || event >= events {
		return entry{next: state}
	}
	return all[event][state]
}

// beyond are numbers on both sides of a range that begins with 0.
func beyond(n int) []int {
	return []int{
		math.MinInt, math.MinInt + n/2, -1 << 32, -256, -n, -2, -1,
		n, n + 1, n + 2, 2 * n, 255, 256, 256 + n/2, 1<<16 + n/2, 1 << 32, 1<<32 + n/2, math.MaxInt,
	}
}

// upTo are the numbers of a range, and those beyond it.
func upTo(n int) []int {
	l := beyond(n)
	for i := range n {
		l = append(l, i)
	}
	return l
}

// P12.1: the states, the events and the actions are numbered in the order of the chapter.
func TestNumbers(t *testing.T) {
	names := []int{
		api.Initial, api.Starting, api.Closed, api.Stopped, api.Closing,
		api.Stopping, api.ReqSent, api.AckRcvd, api.AckSent, api.Opened,
	}
	for i, state := range names {
		if state != i {
			t.Errorf("P12.1: state %d of the table is %d", i, state)
		}
	}
	if i := slices.Index(abbreviations(), ""); i >= 0 {
		t.Errorf("P12.1: action %d has no abbreviation", i)
	}
}

// P12.1: every entry of the table.
func TestStepOfEachEntry(t *testing.T) {
	all := chapter(t)
	for event := range events {
		for state := range states {
			want := all.of(state, event)
			actions, next := fsm.Step(state, event)
			if !want.is(actions, next) {
				t.Errorf("P12.1: Step(%d, %d): %s %d, want %s", state, event, told(actions), next, want)
			}
		}
	}
}

// P12.1: states and events that package api doesn't have, each with any of the others.
func TestStepOfOtherNumbers(t *testing.T) {
	still := func(state, event int) {
		t.Helper()
		actions, next := fsm.Step(state, event)
		if len(actions) > 0 || next != state {
			t.Errorf("P12.1: Step(%d, %d): %s %d, want no actions and the same state", state, event, told(actions), next)
		}
	}
	for _, state := range beyond(states) {
		for _, event := range upTo(events) {
			still(state, event)
		}
	}
	for _, event := range beyond(events) {
		for _, state := range upTo(states) {
			still(state, event)
		}
	}
}

// scribble writes over a list, up to its capacity.
func scribble(l []int) {
	for i := range l[:cap(l)] {
		l[:cap(l)][i] = -7
	}
}

// P12.1 with R4 and R5: each list is new memory, and what becomes of it changes nothing.
func TestStepSharesNothing(t *testing.T) {
	all := chapter(t)
	var kept []entry
	var want []string
	for round := range 3 {
		for event := range events {
			for state := range states {
				actions, next := fsm.Step(state, event)
				if e := all.of(state, event); !e.is(actions, next) {
					t.Errorf("P12.1: Step(%d, %d) in round %d: %s %d, want %s", state, event, round, told(actions), next, e)
				}
				if round == 1 {
					kept = append(kept, entry{actions, next})
					want = append(want, entry{actions, next}.String())
				} else {
					scribble(actions)
				}
			}
		}
	}
	for i, e := range kept {
		if e.String() != want[i] {
			t.Errorf("P12.1: an answer became %s, and was %s", e, want[i])
		}
	}
}
