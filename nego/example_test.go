package nego_test

import (
	"fmt"

	"fairlead/api"
	"fairlead/nego"
)

func Example() {
	rules := []nego.Rule{
		{Type: 1, How: nego.Range, Len: 2, Lo: 64, Hi: 1500},
		{Type: 5, How: nego.Any, Len: 4},
	}
	a, _ := nego.New(rules, []api.Option{{Type: 1, Data: []byte{7, 0xd0}}}, 10, 3)
	b, _ := nego.New(rules, nil, 10, 3)
	a.Do(api.Open)
	b.Do(api.Open)
	line := [2][]api.Packet{a.Do(api.Up).Send, b.Do(api.Up).Send}
	ends := [2]*nego.Nego{b, a} // who gets what is on each way of the line
	for len(line[0])+len(line[1]) > 0 {
		for way, end := range ends {
			if len(line[way]) > 0 {
				p := line[way][0]
				line[way] = line[way][1:]
				line[1-way] = append(line[1-way], end.Input(p).Send...)
			}
		}
	}
	fmt.Println(a.State() == api.Opened, a.Mine(), a.Given())
	fmt.Println(b.State() == api.Opened, b.Mine(), b.Given())
	// Output:
	// true [{1 [5 220]}] []
	// true [] [{1 [5 220]}]
}

func ExampleJudge() {
	rules := []nego.Rule{
		{Type: 1, How: nego.Range, Len: 2, Lo: 64, Hi: 1500},
		{Type: 5, How: nego.Any, Len: 4},
	}
	fits, long := api.Option{Type: 1, Data: []byte{5, 0xdc}}, api.Option{Type: 1, Data: []byte{7, 0xd0}}
	fmt.Println(nego.Judge(rules, []api.Option{fits}, false))
	fmt.Println(nego.Judge(rules, []api.Option{long}, false))
	fmt.Println(nego.Judge(rules, []api.Option{fits, {Type: 9}}, false))
	fmt.Println(nego.Judge(rules, []api.Option{long}, true))
	// Output:
	// 2 [{1 [5 220]}]
	// 3 [{1 [5 220]}]
	// 4 [{9 []}]
	// 4 [{1 [7 208]}]
}
