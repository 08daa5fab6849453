package stuff_test

import (
	"fmt"

	"fairlead/stuff"
)

func Example() {
	l := stuff.Stuff([]byte{0x7e, 5, 'A'}, 1<<5)
	fmt.Printf("% X\n", l)

	d, err := stuff.New(1<<5, 100)
	fmt.Printf("%d: % X\n", err, d.Feed(l[:3]))
	fmt.Printf("% X\n", d.Feed(l[3:]))
	fmt.Println(d.Feed([]byte{'A', 0x7d, 0x7e}), d.Dropped())
	// Output:
	// 7E 7D 5E 7D 25 41 7E
	// 0: []
	// [7E 05 41]
	// [] 1
}
