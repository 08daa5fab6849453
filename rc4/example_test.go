package rc4_test

import (
	"fmt"

	"fairlead/rc4"
)

func Example() {
	c, err := rc4.New([]byte("Key"))
	fmt.Printf("%d: % X\n", err, c.Xor([]byte("Plaintext")))
	_, err = rc4.New(nil)
	fmt.Println(err)
	// Output:
	// 0: BB F3 16 E8 D9 40 AF 0A D3
	// argument
}

func ExampleSymbol() {
	c := rc4.Symbol(1)
	fmt.Println(c.Xor([]byte("abc")), c.Offset())
	d := c.Clone()
	fmt.Println(c.Xor([]byte("de")), d.Xor([]byte("fg")), d.Offset())
	// Output:
	// [31 38 45] 3
	// [52 59] [52 59] 5
}
