package des_test

import (
	"fmt"

	"fairlead/api"
	"fairlead/des"
)

func Example() {
	key := []byte{0x12, 0x69, 0x5B, 0xC9, 0xB7, 0xB7, 0xF8}
	block := []byte{0x01, 0x23, 0x45, 0x67, 0x89, 0xAB, 0xCD, 0xEF}
	out, err := des.Encrypt(key, block)
	fmt.Printf("%X %v\n", out, err == api.OK)
	out, err = des.Encrypt(key, block[:7])
	fmt.Printf("%X %v\n", out, err == api.ErrArg)
	// Output:
	// 85E813540F0AB405 true
	//  true
}
