package fsm_test

import (
	"fmt"

	"fairlead/api"
	"fairlead/fsm"
)

func Example() {
	m, err := fsm.New(2, 3)
	fmt.Println(err, m.Do(api.Up), m.Do(api.Open), m.State() == api.ReqSent, m.Count())
	for range 3 {
		fmt.Println(m.Tick(), m.Tick(), m.Tick())
	}
	fmt.Println(m.State() == api.Stopped, m.Running())
	// Output:
	// ok [] [4 6] true 1
	// [] [] [6]
	// [] [] [3]
	// [] [] []
	// true false
}

func ExampleStep() {
	actions, next := fsm.Step(api.AckRcvd, api.ReqGood)
	fmt.Println(actions, next == api.Opened)
	// Output:
	// [7 0] true
}
