package sha_test

import (
	"fmt"

	"fairlead/sha"
)

func Example() {
	fmt.Printf("%X\n", sha.Sum(nil))
	fmt.Printf("%X\n", sha.Sum([]byte("abc")))
	// Output:
	// DA39A3EE5E6B4B0D3255BFEF95601890AFD80709
	// A9993E364706816ABA3E25717850C26C9CD0D89D
}
