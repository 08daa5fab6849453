package auth_test

import (
	"fmt"

	"fairlead/auth"
)

func Example() {
	server, _ := auth.NewServer("gate", "clientPass", 10, 3)
	client, _ := auth.NewClient("User", "clientPass")
	client.Draw([]byte("!@#$%^&*()_+:3|~"))
	asked := server.Begin([]byte("[]|}{?/><,`!2&&("))
	answered := client.Input(asked.Send[0])
	told := server.Input(answered.Send[0])
	client.Input(told.Send[0])
	fmt.Printf("%X\n", asked.Send[0].Data)
	fmt.Printf("%X\n", answered.Send[0].Data)
	fmt.Printf("%s\n", told.Send[0].Data)
	fmt.Println(server.State() == auth.Good, client.State() == auth.Good)
	fmt.Printf("%X\n", client.Answer())
	// Output:
	// 105B5D7C7D7B3F2F3E3C2C60213226262867617465
	// 3121402324255E262A28295F2B3A337C7E000000000000000082309ECD8D708B5EA08FAA3981CD83544233114A3D85D6DF0055736572
	// S=407A5589115FD0D6209F510FE9C04566932CDA56 M=ok
	// true true
	// 82309ECD8D708B5EA08FAA3981CD83544233114A3D85D6DF
}
