package chap_test

import (
	"fmt"

	"fairlead/chap"
)

func Example() {
	auth := []byte("[]|}{?/><,`!2&&(")
	peer := []byte("!@#$%^&*()_+:3|~")
	challenge, _ := chap.Challenge(peer, auth, "User")
	fmt.Printf("%X\n", challenge)
	hash, _ := chap.Hash("clientPass")
	fmt.Printf("%X\n", hash)
	answer, _ := chap.Answer(challenge, hash)
	fmt.Printf("%X\n", answer)
	answer, _ = chap.Respond(auth, peer, `BIGCO\User`, "clientPass")
	fmt.Printf("%X\n", answer)
	proof, _ := chap.Proof("clientPass", answer, peer, auth, "User")
	fmt.Println(proof)

	_, err := chap.Hash("\xff")
	fmt.Println(err)
	// Output:
	// D02E4386BCE91226
	// 44EBBA8D5312B8D611474411F56989AE
	// 82309ECD8D708B5EA08FAA3981CD83544233114A3D85D6DF
	// 82309ECD8D708B5EA08FAA3981CD83544233114A3D85D6DF
	// S=407A5589115FD0D6209F510FE9C04566932CDA56
	// form
}
