package md4_test

import (
	"fmt"

	"fairlead/md4"
)

func Example() {
	fmt.Printf("%X\n", md4.Sum(nil))
	fmt.Printf("%X\n", md4.Sum([]byte("abc")))
	// Output:
	// 31D6CFE0D16AE931B73C59D7E0C089C0
	// A448017AAF21D8525FC10AE87AA6729D
}
