package bits_test

import (
	"fmt"

	"fairlead/bits"
)

func Example() {
	w := bits.NewWriter(true)
	w.Put(5, 3)
	w.Put(1, 2)
	r := bits.NewReader(w.Bytes(), true)
	first, _ := r.Take(3)
	second, _ := r.Take(2)
	_, ok := r.Take(9)
	fmt.Printf("%X %d %d %v %d\n", w.Bytes(), first, second, ok, r.Left())
	// Output: A8 5 1 false 3
}
