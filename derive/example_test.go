package derive_test

import (
	"fmt"

	"fairlead/chap"
	"fairlead/derive"
)

func Example() {
	auth := []byte("[]|}{?/><,`!2&&(")
	peer := []byte("!@#$%^&*()_+:3|~")
	answer, _ := chap.Respond(auth, peer, "User", "clientPass")
	master, _ := derive.Master("clientPass", answer)
	fmt.Printf("%X\n", master)
	for _, bits := range []int{40, 128} {
		start, _ := derive.Start(master, bits, false)
		key, _ := derive.First(start, bits)
		fmt.Printf("%X, %X\n", start, key)
		key, _ = derive.Next(start, key, bits)
		fmt.Printf("%X\n", key)
	}

	_, err := derive.Start(master, 64, false)
	fmt.Println(err)
	// Output:
	// FDECE3717A8C838CB388E527AE3CDD31
	// 8B7CDC149B993A1B, D1269EC49FA62E3E
	// D1269ECE4D98D181
	// 8B7CDC149B993A1BA118CB153F56DCCB, 405CB2247A7956E6E211007AE27B22D4
	// 726F10500E2B54135B1B74D7682F0471
	// argument
}
