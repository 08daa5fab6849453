package fsm

import (
	"testing"

	"fairlead/api"
)

// P12.2: what each action does, with the counter at 0 too, where no sequence of
// calls comes to some of them.
func TestPerform(t *testing.T) {
	const tries, timeout = 5, 7
	for action := -2; action <= api.SendEcho+2; action++ {
		for count := range tries + 1 {
			for left := range timeout + 1 {
				m := Machine{tries: tries, timeout: timeout, state: api.ReqSent, count: count, left: left}
				want := m
				switch action {
				case api.InitCount:
					want.count = tries
				case api.ZeroCount:
					want.count, want.left = 0, timeout
				case api.SendReq, api.SendTermReq:
					want.left = timeout
					if count > 0 {
						want.count = count - 1
					}
				}
				m.perform(action)
				if m != want {
					t.Errorf("P12.2: action %d, the counter at %d, %d ticks left: %v, want %v", action, count, left, m, want)
				}
			}
		}
	}
}
