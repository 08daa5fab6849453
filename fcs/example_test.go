package fcs_test

import (
	"fmt"

	"fairlead/fcs"
)

func Example() {
	b := []byte("123456789")
	fmt.Printf("%04X %08X\n", fcs.Sum16(b), fcs.Sum32(b))
	framed := fcs.Add(b)
	rest, ok := fcs.Check(framed)
	fmt.Printf("%X %q %v\n", framed, rest, ok)
	framed[0] ^= 1
	rest, ok = fcs.Check(framed)
	fmt.Printf("%q %v\n", rest, ok)
	// Output:
	// 906E CBF43926
	// 3132333435363738396E90 "123456789" true
	// "" false
}
